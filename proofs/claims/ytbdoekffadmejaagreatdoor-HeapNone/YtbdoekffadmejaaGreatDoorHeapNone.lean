/-
  HeapNone: of a nil heap every call tells ErrNil, 0 or nothing, whatever act there is, and what must come at any rate comes.
  Conditions: none on the input; the package-level tables of the closures' shapes and of the words' spans start as the program's text lays them (the card ties them to that text, of the pruned copy of the project that this seat holds).
-/
import Derived.Shelf.Lay
import Derived.Shelf.Spec.SlicesGrow
import Derived.Shelf.Slices.Clone
import Derived.Test.YtbdoekffadmejaaGreatDoorRows
import Derived.Test.YtbdoekffadmejaaGreatDoorHmr
import Derived.Test.YtbdoekffadmejaaGreatDoorArm
import Derived.Laws.AppendOwnNone
import Derived.Test.YtbdoekffadmejaaGreatDoorCards
import Derived.Test.YtbdoekffadmejaaGreatDoorTie
import Derived.ProofKit
import Derived.OpenShut
import Derived.Lib.SmallJoins
import Derived.Deep.DeepHandedRow
import Derived.ChangeOld
import Derived.Deep.Slices
/- The library's contracts of slices.Grow and slices.Clone at this program's numbers. -/
namespace Go.Proofs
open Go.Shelf
def Tryz.growI_ren : Go.Shelf.Ren := ⟨fun | 4 => 171 | n => n, fun | 22 => 31 | 25 => 3 | 3 => 3 | 4 => 4 | 9 => 9 | 20 => 20 | 0 => 0 | n => n, fun | n => n⟩
theorem Tryz.growI : Lays8.n4 Tryz.prog Tryz.growI_ren := {
  mixed := by kernel_rfl
  f4 := ⟨Tryz.f171.name, by kernel_rfl, Tryz.func171.trans (congrArg some (by kernel_rfl))⟩
  t0 := Tryz.underlying0
  a0 := Tryz.isAgg0
  z0 := Tryz.sizeOf0
  v0 := Tryz.zeroValue0
  t3 := Tryz.underlying3
  a3 := Tryz.isAgg3
  z3 := Tryz.sizeOf3
  v3 := Tryz.zeroValue3
  t4 := Tryz.underlying4
  a4 := Tryz.isAgg4
  z4 := Tryz.sizeOf4
  v4 := Tryz.zeroValue4
  t9 := Tryz.underlying9
  a9 := Tryz.isAgg9
  z9 := Tryz.sizeOf9
  v9 := Tryz.zeroValue9
  t20 := Tryz.underlying20
  a20 := Tryz.isAgg20
  z20 := Tryz.sizeOf20
  v20 := Tryz.zeroValue20
  t22 := Tryz.underlying31
  a22 := Tryz.isAgg31
  z22 := Tryz.sizeOf31
  v22 := Tryz.zeroValue31 }
def Tryz.cloneI_ren : Go.Shelf.Ren := ⟨fun | 15 => 131 | n => n, fun | 22 => 31 | 3 => 3 | 4 => 4 | n => n, fun | n => n⟩
theorem Tryz.cloneI : Lays2.n15 Tryz.prog Tryz.cloneI_ren := {
  mixed := by kernel_rfl
  f15 := Tryz.func131.trans (congrArg some (by kernel_rfl))
  t3 := Tryz.underlying3
  a3 := Tryz.isAgg3
  z3 := Tryz.sizeOf3
  v3 := Tryz.zeroValue3
  t4 := Tryz.underlying4
  a4 := Tryz.isAgg4
  z4 := Tryz.sizeOf4
  v4 := Tryz.zeroValue4
  t22 := Tryz.underlying31
  a22 := Tryz.isAgg31
  z22 := Tryz.sizeOf31
  v22 := Tryz.zeroValue31
  i3 := by kernel_rfl }
end Go.Proofs

/- Package heap: what a move does, piece by piece. -/
namespace Go.Proofs.YtbdoekffadmejaaGreatDoor
open Go.RowKit
set_option linter.unusedVariables false
set_option linter.unusedSimpArgs false
set_option maxRecDepth 100000

theorem move_len (xs : List Int) (t f k : Int) : (Bp.Ar.moveL xs t f k).length = xs.length := by
  unfold Bp.Ar.moveL
  split
  · rename_i e
    unfold Bp.Ar.moveE at e
    split at e
    · omega
    · split at e
      · rename_i h1 h2
        have a := h2.1
        have b := h2.2
        unfold Bp.Ar.within at a b
        simp only [decide_eq_true_eq] at a b
        exact length_splice _ _ _ (by simp; omega)
      · omega
  · rfl
theorem move_in {xs : List Int} (h : ∀ x ∈ xs, 0 ≤ x ∧ x ≤ 18446744073709551615) (t f k : Int) : ∀ x ∈ Bp.Ar.moveL xs t f k, 0 ≤ x ∧ x ≤ 18446744073709551615 := by
  unfold Bp.Ar.moveL
  split
  · exact splice_in h (fun x hx => h x (List.mem_of_mem_drop (List.mem_of_mem_take hx)))
  · exact h
/-- How many words a closure has. -/
def szW (xs : List Int) (x : Int) : Int := Sh.sizeN (Wo.unK (Bp.Ar.readW xs x)) (Wo.unI (Bp.Ar.readW xs x)) (Wo.unP (Bp.Ar.readW xs x)) (Wo.unN (Bp.Ar.readW xs x))
section
variable {w w' : World} {γ γ' : Nat → Tg} {h : Nat} {k : Value} {A : Ad} {H : Hs} {B : Wa} {K : Wk}
theorem move_hm (q : Hm w γ h k A H) (t f n : Int) (ht : t ≤ 9223372036854775807) (hf : f ≤ 9223372036854775807) : Calls Tryz.prog 123 #[pt A.a, .int .i64 t, .int .i64 f, .int .i64 n] w fun e w' => (∃ z, e = .returned (.int .i64 z)) ∧ Hm w' γ h k A { H with xs := Bp.Ar.moveL H.xs t f n } ∧ Fr tar w w' γ γ := by
  obtain ⟨ab, hA, t1, t2⟩ := q.ar
  refine (Bp.Ar.move_any hA t f n ht hf).mono ?_
  rintro e w' ⟨rfl, h2, g⟩
  have F : Fr tar w w' γ γ := Fr.one g t2
  exact ⟨⟨_, rfl⟩, q.words ⟨ab, h2, t1, t2⟩ F (move_len _ _ _ _) (move_in q.word _ _ _), F⟩
/-- The words alone turn. -/
theorem Wm.words (q : Wm w γ h A H B K) {xs : List Int} (Q : Hm w' γ h (pt B.kb) A { H with xs := xs }) (F : Fr tar w w' γ γ) : Wm w' γ h A { H with xs := xs } B K :=
  ⟨Q, q.km.fr' F nofun nofun nofun nofun nofun nofun nofun (fun s hs => ⟨nofun, nofun, nofun⟩), q.ap⟩
theorem move_wk (q : Wm w γ h A H B K) (t f n : Int) (ht : t ≤ 9223372036854775807) (hf : f ≤ 9223372036854775807) : Calls Tryz.prog 123 #[pt A.a, .int .i64 t, .int .i64 f, .int .i64 n] w fun e w' => (∃ z, e = .returned (.int .i64 z)) ∧ Wm w' γ h A { H with xs := Bp.Ar.moveL H.xs t f n } B K ∧ Fr tar w w' γ γ := by
  refine (move_hm q.hm t f n ht hf).mono ?_
  rintro e w' ⟨z, Q, F⟩
  exact ⟨z, q.words Q F, F⟩
theorem write_wk (q : Wm w γ h A H B K) (i v : Int) (hv : 0 ≤ v ∧ v ≤ 18446744073709551615) : Calls Tryz.prog 64 #[pt A.a, .int .i64 i, .int .u64 v] w fun e w' => (∃ z, e = .returned (.int .i64 z)) ∧ Wm w' γ h A { H with xs := Bp.Ar.writeL H.xs i v } B K ∧ Fr tar w w' γ γ := by
  refine (write_hm q.hm i v hv).mono ?_
  rintro e w' ⟨z, Q, F⟩
  exact ⟨z, q.words Q F, F⟩
/-- What turns where room is found stays clear of the collection's spaces. -/
theorem Wm.clear {T : Tg → Prop} (q : Wm w γ h A H B K) {g s : Nat} (hg : g < H.c.g) (hs : s < H.c.n g) (F : Fr T w w' γ γ') (t : ∀ u, T u → Tm (A.σ g s) u) : Km w' γ' H.c A.p A.a B K := by
  have ap := q.ap g s hg hs
  have nt : ∀ u, ¬ Tm (A.σ g s) u → ¬ T u := fun u k e => k (t u e)
  refine q.km.fr' F (nt _ ?_) (nt _ ?_) (nt _ ?_) (nt _ ?_) (nt _ ?_) (nt _ ?_) (nt _ ?_) (fun s' hs' => ⟨nt _ ?_, nt _ ?_, nt _ ?_⟩)
  all_goals (rintro ((e | e | e | e | e) | e) <;> cases e)
  all_goals exact ap hs'
theorem room_wk (q : Wm w γ h A H B K) {g s : Nat} (hg : g < H.c.g) (hs : s < H.c.n g) (hl : (H.sp g s).l.length ≤ 1000) (n : Int) (hE : H.layE g s n = 0) (hn0 : A.wn ≤ 1000000) :
    Calls Tryz.prog 60 #[pt h, plc (g, s), .int .i64 n] w fun e w' => e = .returned (.tuple #[.int .i64 (H.layA g s n), .int .i64 0]) ∧ ∃ γ', Fr hTn w w' γ γ' ∧ Wm w' γ' h A.more (H.placed g s n) B K := by
  refine (room_ok q.hm hg hs hl n hE hn0).mono ?_
  rintro e w' ⟨rfl, γ', F, Q⟩
  exact ⟨rfl, γ', F.mono (fun t e => tm_hTn e), Q, q.clear hg hs F (fun u e => e), q.ap⟩
abbrev tkf (t : Tg) : Prop := t = .kb ∨ t = .kf
/-- A closure more was laid. -/
theorem Km.laid {c : Cf} {p a : Nat} (q : Km w γ c p a B K) {w1 : World} {v' : Value} {x : Int}
    (r : w1.ownsRow 0 3 1 v' (K.fresh.length + 1) (ints K.fresh ++ [.int .i64 x])) (G : w.grownBy w1 B.fv.ownBlock) (O : v'.ownBlock = B.fv.ownBlock ∨ v'.ownBlock = some w.heap.size) :
    ∃ γ', (∀ k, k < w.heap.size → γ' k = γ k) ∧ Fr tkf w (w1.setCell ⟨B.kb, 2, none⟩ v') γ γ' ∧ Km (w1.setCell ⟨B.kb, 2, none⟩ v') γ' c p a { B with fv := v' } { K with fresh := K.fresh ++ [x] } := by
  let γ' : Nat → Tg := fun k => if w.heap.size ≤ k then .kf else γ k
  have old : ∀ k, k < w.heap.size → γ' k = γ k := fun k hk => if_neg (by omega)
  have F1a : Fr tkf w w1 γ γ := ⟨G.os, G.tape, G.output, G.size, fun _ _ => rfl, fun k hk hx => G.block k hk (fun e => hx (.inr (q.frT k e.symm)))⟩
  have kbl := lt_of q.box
  have F2 : Fr tkf w1 (w1.setCell ⟨B.kb, 2, none⟩ v') γ γ := Fr.one (grown_cell _ _ _ _) (.inl q.tag)
  have F := (F1a.trans F2).retag old
  have bk : w1.heap[B.kb]? = w.heap[B.kb]? := G.block _ kbl (fun e => by have := q.frT _ e.symm; rw [q.tag] at this; cases this)
  have vk : ∀ k, v'.ownBlock = some k → k ≠ B.kb := by
    rintro k e rfl
    obtain ⟨cs, hb⟩ := own_kind r e
    rw [bk, q.box] at hb
    simp only [Option.some.injEq, Obj.cells.injEq] at hb
    exact absurd hb.2.1 (by decide)
  refine ⟨γ', old, F, {
    box := (Joins.block_setCell (bk.trans q.box) _).trans (by simp)
    tag := (old _ kbl).trans q.tag
    row := Bp.ownsRow_same q.row (fun k e => F.block k (q.row.lt k e).2 (by rw [q.rowT k e]; nofun))
    rowT := fun k e => F.tg (q.row.lt k e).2 (q.rowT k e)
    len := q.len
    sps := fun i hi => (q.sps i hi).fr F nofun nofun nofun
    nd := q.nd
    fit := q.fit
    av := q.av.fr F (by rw [q.avT]; nofun)
    avT := F.tg q.av.lt q.avT
    fr := ?_
    frT := ?_
    told := by have := q.told; show K.told ≤ (K.fresh ++ [x]).length; simp; omega
    late := q.late.fr F nofun nofun nofun
    dom := q.dom }⟩
  · have e : ints (K.fresh ++ [x]) = ints K.fresh ++ [.int .i64 x] := by simp [ints]
    simp only [e, List.length_append, List.length_singleton]
    exact Bp.ownsRow_same r (fun b e => Below.heap_setCell _ _ _ _ (vk b e))
  · intro k e
    rcases O with o | o
    · rw [o] at e
      exact (old k (q.fr.lt k e).2).trans (q.frT k e)
    · rw [o] at e; cases e
      exact if_pos (Nat.le_refl _)
end
theorem info3 : (Tryz.prog.info? 3).map (fun i => (i.zero, i.size, i.bytes)) = some (some (.int .i64 0), 1, 8) := by kernel_rfl
end Go.Proofs.YtbdoekffadmejaaGreatDoor

/- Package heap: a closure is moved. -/
namespace Go.Proofs.YtbdoekffadmejaaGreatDoor
open Go.RowKit
set_option linter.unusedVariables false
set_option linter.unusedSimpArgs false
set_option maxRecDepth 100000

theorem tkf_hTn {t : Tg} (h : tkf t) : hTn t := by
  rcases h with rfl | rfl <;> (rintro (e | ⟨n, e⟩) <;> cases e)
/-- What a move leaves. -/
def Hs.went (H : Hs) (x : Int) (g s : Nat) : Hs :=
  { H.placed g s (szW H.xs x) with xs := Bp.Ar.writeL (Bp.Ar.moveL (H.placed g s (szW H.xs x)).xs (H.layA g s (szW H.xs x)) x (szW H.xs x)) x (H.layA g s (szW H.xs x) * 2) }
section
variable {w w' : World} {γ γ' : Nat → Tg} {h : Nat} {A : Ad} {H : Hs} {B : Wa} {K : Wk}
set_option maxHeartbeats 2000000 in
theorem move_yes (q : Wm w γ h A H B K) (x : Int) (hx : 1 ≤ x ∧ x ≤ 300000) {g s : Nat} (hg : g < H.c.g) (hs : s < H.c.n g) (hl : (H.sp g s).l.length ≤ 1000) (hE : H.layE g s (szW H.xs x) = 0) (hn0 : A.wn ≤ 1000000) (hfr : K.fresh.length ≤ 1000000) :
    Calls Tryz.prog 69 #[pt h, .int .i64 x, plc (g, s)] w fun e w' => e = .returned (.tuple #[.int .i64 (H.layA g s (szW H.xs x)), .int .i64 0]) ∧ ∃ γ', Fr hTn w w' γ γ' ∧ ∃ v, Wm w' γ' h A.more (H.went x g s) { B with fv := v } { K with fresh := K.fresh ++ [H.layA g s (szW H.xs x)] } := by
  have B0 := (Below.refl _ w).alloc (Nat.le_refl _) (.cells #[.int .i64 g, .int .i64 s] 105)
  have hb0 := heap_alloc_new w (.cells #[.int .i64 g, .int .i64 s] 105)
  have q0 := q.later B0
  have HD := head_any q0.hm x
  have SZ : ∀ (W : World), Below (w.alloc (.cells #[.int .i64 g, .int .i64 s] 105)).heap.size (w.alloc (.cells #[.int .i64 g, .int .i64 s] 105)) W → Calls Tryz.prog 61 #[hdV (Bp.Ar.readW H.xs x)] W fun e w' => e = .returned (.int .i64 (szW H.xs x)) ∧ Below W.heap.size W w' := fun W b => Sh.size_any (Wo.unK (Bp.Ar.readW H.xs x)) (Wo.unI (Bp.Ar.readW H.xs x)) (Wo.unP (Bp.Ar.readW H.xs x)) (Wo.unN (Bp.Ar.readW H.xs x)) W (q0.later b).hm.gl.tb
  have RM := fun (W : World) (b : Below (w.alloc (.cells #[.int .i64 g, .int .i64 s] 105)).heap.size (w.alloc (.cells #[.int .i64 g, .int .i64 s] 105)) W) => room_wk (q0.later b) hg hs hl (szW H.xs x) hE hn0
  have ps0 := lay_pos q.hm.zero (q.hm.fit g s hg hs).nx hE
  have bb := q.hm.ok.b
  have tin : 1 ≤ H.layA g s (szW H.xs x) ∧ H.layA g s (szW H.xs x) ≤ 300000 := ⟨ps0.1, by have := ps0.2.1; have := ps0.2.2.1; unfold Hs.layA; omega⟩
  have HB := Hid.mk B0
  have HF : Hid (Fr hTn w (w.alloc (.cells #[.int .i64 g, .int .i64 s] 105)) γ γ) := ⟨Fr.later _ _ B0⟩
  obtain ⟨ga0, k0, c0, e0⟩ := row_sl q.km.fr
  unfold Hs.went
  have He0 := Hid.mk e0
  have MV := fun (W : World) (γ1 : Nat → Tg) (H1 : Hs) (Q : Wm W γ1 h A.more H1 B K) => move_wk Q (H.layA g s (szW H.xs x)) x (szW H.xs x) (by omega) (by omega)
  have FW := fun (W : World) => Wo.forward_yes (H.layA g s (szW H.xs x)) W tin.1 (by omega)
  have WR := fun (W : World) (γ1 : Nat → Tg) (H1 : Hs) (Q : Wm W γ1 h A.more H1 B K) => write_wk Q x (H.layA g s (szW H.xs x) * 2) (by omega)
  generalize hdV (Bp.Ar.readW H.xs x) = hv at HD SZ
  generalize H.layA g s (szW H.xs x) = t at *
  generalize H.placed g s (szW H.xs x) = H2 at *
  generalize szW H.xs x = n at *
  clear q q0 B0 hE ps0 bb hl e0
  go_enter Tryz.func69, Tryz.ntmps69
  go_wp2_with (first
    | (go_at_call 50; refine HD.mono ?_; rintro e w1 ⟨rfl, B1⟩; have S1 := SZ _ B1; have HB1 := Hid.mk B1; clear B1 SZ HD)
    | (go_at_call 61; refine S1.mono ?_; rintro e w2 ⟨rfl, B2⟩; have HB2 := Hid.mk (HB1.out.trans (B2.mono HB1.out.size)); have b2 := (HB2.out.block w.heap.size (by simp)).trans hb0; have p0 := hd4 b2 0; have p1 := hd4 b2 1; simp only [List.getElem?_toArray, List.getElem?_cons_zero, List.getElem?_cons_succ] at p0 p1; have R1 := RM _ HB2.out; clear b2 B2 RM S1)
    | (go_at_call 60; refine R1.mono ?_; rintro e w3 ⟨rfl, γ1, F1, Q1⟩; have HF1 := Hid.mk (HF.out.trans ((Fr.later hTn _ HB2.out).trans F1)); have c6 := Q1.hm.ca; have M1 := MV _ _ _ Q1; clear F1 Q1 MV R1)
    | (go_at_call 123; refine M1.mono ?_; rintro e w4 ⟨⟨z, rfl⟩, Q2, F2⟩; have c6' := Q2.hm.ca; have HF2 := Hid.mk (HF1.out.trans (F2.mono (fun t e => tar_hTn e))); have W1 := WR _ _ _ Q2; clear Q2 F2 WR M1)
    | (go_at_call 124; refine (FW _).mono ?_; rintro e w5 ⟨rfl, hw⟩; rw [hw]; clear hw)
    | (go_at_call 64; refine W1.mono ?_; rintro e W ⟨⟨z2, rfl⟩, Q3, F3⟩; have HQ3 := Hid.mk Q3; have HF3 := Hid.mk (HF2.out.trans (F3.mono (fun t e => tar_hTn e))); clear Q3 F3 W1))
  have QD := HQ3.out.later (below_drew1 W)
  have BA := (Below.refl _ W.drew).alloc (Nat.le_refl _) (.cells #[.int .i64 t] 3)
  rw [show W.drew.alloc (.cells #[.int .i64 t] 3) = (W.alloc (.cells #[.int .i64 t] 3)).drew from rfl] at BA
  have HQA := Hid.mk (QD.later BA)
  have HRA : Hid (((W.alloc (.cells #[.int .i64 t] 3)).drew).ownsRow 0 3 1 (.slice ga0 k0 c0) K.fresh.length (ints K.fresh)) := ⟨by rw [← He0.out]; exact HQA.out.km.fr⟩
  have b10 : W.drew.cell? ⟨h, 10, none⟩ = some (pt B.kb) := QD.hm.ck
  have b2 : W.drew.cell? ⟨B.kb, 2, none⟩ = some (.slice ga0 k0 c0) := by rw [← He0.out]; exact hd4 QD.km.box 2
  have a10 : ((W.alloc (.cells #[.int .i64 t] 3)).drew).cell? ⟨h, 10, none⟩ = some (pt B.kb) := HQA.out.hm.ck
  have a2 : ((W.alloc (.cells #[.int .i64 t] 3)).drew).cell? ⟨B.kb, 2, none⟩ = some (.slice ga0 k0 c0) := by rw [← He0.out]; exact hd4 HQA.out.km.box 2
  have HFR : Hid (Fr hTn w ((W.alloc (.cells #[.int .i64 t] 3)).drew) γ γ1) := ⟨HF3.out.trans (Fr.later hTn γ1 ((below_drew1 W).trans (BA.mono (Nat.le_refl _))))⟩
  have an : (W.alloc (.cells #[.int .i64 t] 3)).drew.cell? ⟨W.heap.size, 0, none⟩ = some (.int .i64 t) := cell_new1 W.drew (.int .i64 t) 3
  clear QD BA
  refine wp_region_held_drew (S := (fun wx => wx.cell? ⟨h, 10, none⟩ = some (pt B.kb))) (by kernel_rfl) b10 (fun hHeld => ?_)
  refine wpAnyH_take (i := 0) (v := ?_) rfl (by kernel_rfl) (by kernel_rfl) (by kernel_rfl) (fun _ _ _ h => h) (Or.inl ⟨by rfl, ?_⟩) (by assumption) ?_
  rotate_left
  · intro w' hSw
    try dsimp only at hSw
    go_simp
    try with_reducible rfl
  try simp only [Act.put, List.getElem_toArray, List.getElem_cons_zero, List.getElem_cons_succ, List.setIfInBounds_toArray, List.set_cons_zero, List.set_cons_succ]
  refine wpAnyH_take (i := 1) (v := ?_) rfl (by kernel_rfl) (by kernel_rfl) (by kernel_rfl) (fun _ _ _ h => h) (Or.inl ⟨by rfl, ?_⟩) (by assumption) ?_
  rotate_left
  · intro w' hSw
    try dsimp only at hSw
    go_simp
    try with_reducible rfl
  try simp only [Act.put, List.getElem_toArray, List.getElem_cons_zero, List.getElem_cons_succ, List.setIfInBounds_toArray, List.set_cons_zero, List.set_cons_succ]
  refine wpAnyH_take (i := 2) (v := ?_) rfl (by kernel_rfl) (by kernel_rfl) (by kernel_rfl) (fun _ _ _ h => h) (Or.inl ⟨by rfl, ?_⟩) (by assumption) ?_
  rotate_left
  · intro w' hSw
    try dsimp only at hSw
    go_simp
    try with_reducible rfl
  try simp only [Act.put, List.getElem_toArray, List.getElem_cons_zero, List.getElem_cons_succ, List.setIfInBounds_toArray, List.set_cons_zero, List.set_cons_succ]
  refine wpAnyH_take (i := 3) (v := ?_) rfl (by kernel_rfl) (by kernel_rfl) (by kernel_rfl) (fun _ _ _ h => h) (Or.inl ⟨by rfl, ?_⟩) (by assumption) ?_
  rotate_left
  · intro w' hSw
    try dsimp only at hSw
    go_simp
    try with_reducible rfl
  try simp only [Act.put, List.getElem_toArray, List.getElem_cons_zero, List.getElem_cons_succ, List.setIfInBounds_toArray, List.set_cons_zero, List.set_cons_succ]
  refine wpAnyH_take (i := 4) (v := ?_) rfl (by kernel_rfl) (by kernel_rfl) (by kernel_rfl) (fun _ _ _ h => h) (Or.inl ⟨by rfl, ?_⟩) (by assumption) ?_
  rotate_left
  · intro w' hSw
    try dsimp only at hSw
    go_simp
    try with_reducible rfl
  try simp only [Act.put, List.getElem_toArray, List.getElem_cons_zero, List.getElem_cons_succ, List.setIfInBounds_toArray, List.set_cons_zero, List.set_cons_succ]
  refine wpAnyH_take (i := 5) (v := ?_) rfl (by kernel_rfl) (by kernel_rfl) (by kernel_rfl) (fun _ _ _ h => h) (Or.inl ⟨by rfl, ?_⟩) (by assumption) ?_
  rotate_left
  · intro w' hSw
    try dsimp only at hSw
    go_simp
    try with_reducible rfl
  try simp only [Act.put, List.getElem_toArray, List.getElem_cons_zero, List.getElem_cons_succ, List.setIfInBounds_toArray, List.set_cons_zero, List.set_cons_succ]
  refine wpAnyH_take (i := 6) (v := ?_) rfl (by kernel_rfl) (by kernel_rfl) (by kernel_rfl) (fun _ _ _ h => h) (Or.inl ⟨by rfl, ?_⟩) (by assumption) ?_
  rotate_left
  · intro w' hSw
    try dsimp only at hSw
    go_simp
    try with_reducible rfl
  try simp only [Act.put, List.getElem_toArray, List.getElem_cons_zero, List.getElem_cons_succ, List.setIfInBounds_toArray, List.set_cons_zero, List.set_cons_succ]
  refine wpAnyH_take (i := 7) (v := ?_) rfl (by kernel_rfl) (by kernel_rfl) (by kernel_rfl) (fun _ _ _ h => h) (Or.inl ⟨by rfl, ?_⟩) (by assumption) ?_
  rotate_left
  · intro w' hSw
    try dsimp only at hSw
    go_simp
    try with_reducible rfl
  try simp only [Act.put, List.getElem_toArray, List.getElem_cons_zero, List.getElem_cons_succ, List.setIfInBounds_toArray, List.set_cons_zero, List.set_cons_succ]
  refine wpAnyH_take (i := 8) (v := ?_) rfl (by kernel_rfl) (by kernel_rfl) (by kernel_rfl) (fun _ _ _ h => h) (Or.inl ⟨by rfl, ?_⟩) (by assumption) ?_
  rotate_left
  · intro w' hSw
    try dsimp only at hSw
    go_simp
    try with_reducible rfl
  try simp only [Act.put, List.getElem_toArray, List.getElem_cons_zero, List.getElem_cons_succ, List.setIfInBounds_toArray, List.set_cons_zero, List.set_cons_succ]
  refine wpAnyH_take (i := 9) (v := ?_) rfl (by kernel_rfl) (by kernel_rfl) (by kernel_rfl) (fun _ _ _ h => h) (Or.inl ⟨by rfl, ?_⟩) (by assumption) ?_
  rotate_left
  · intro w' hSw
    try dsimp only at hSw
    go_simp
    try with_reducible rfl
  try simp only [Act.put, List.getElem_toArray, List.getElem_cons_zero, List.getElem_cons_succ, List.setIfInBounds_toArray, List.set_cons_zero, List.set_cons_succ]
  refine wpAnyH_take (i := 11) (v := ?_) rfl (by kernel_rfl) (by kernel_rfl) (by kernel_rfl) (fun _ _ _ h => h) (Or.inl ⟨by rfl, ?_⟩) (by assumption) ?_
  rotate_left
  · intro w' hSw
    try dsimp only at hSw
    go_simp
    try with_reducible rfl
  try simp only [Act.put, List.getElem_toArray, List.getElem_cons_zero, List.getElem_cons_succ, List.setIfInBounds_toArray, List.set_cons_zero, List.set_cons_succ]
  refine wpAnyH_ready (rs := [10, 12]) (by kernel_rfl) (by simp) ?_
  refine AllReadyH.cons rfl (fun K' hK => ?_) (AllReadyH.cons rfl (fun K' hK => ?_) AllReadyH.nil)
  · go_simp
    refine hK.out _ _ b10 (fun hHeld => ?_)
    clear hK K'
    try simp only [Act.put, List.getElem_toArray, List.getElem_cons_zero, List.getElem_cons_succ, List.setIfInBounds_toArray, List.set_cons_zero, List.set_cons_succ]
    refine wpAnyH_ready (rs := [12]) (by kernel_rfl) (by simp) ?_
    refine AllReadyH.cons rfl (fun K' hK => ?_) AllReadyH.nil
    go_simp
    refine hK.out _ _ a10 (fun hHeld => ?_)
    clear hK K'
    try simp only [Act.put, List.getElem_toArray, List.getElem_cons_zero, List.getElem_cons_succ, List.setIfInBounds_toArray, List.set_cons_zero, List.set_cons_succ]
    generalize (W.alloc (.cells #[.int .i64 t] 3)).drew = WA at *
    refine wpAnyH_ready (rs := [13]) (by kernel_rfl) (by simp) ?_
    refine AllReadyH.cons rfl (fun K' hK => ?_) AllReadyH.nil
    refine step_app1 rfl (.tmp 59) (.tmp 61) 31 rfl 0 3 (.int .i64 0) 8 Tryz.underlying31 info3 (by decide) rfl (.slice ga0 k0 c0) K.fresh.length (ints K.fresh) rfl HRA.out W.heap.size _ rfl an rfl (by omega) (Nat.zero_le _) ?_
    intro v' w8 r8 g8 o8
    obtain ⟨gw, nw, cw, rfl⟩ := row_sl r8
    have G8 := Hid.mk g8
    have R8 := Hid.mk r8
    have O8 := Hid.mk o8
    have hb8 : w8.heap[h]? = WA.heap[h]? := g8.block _ HQA.out.hm.lt (fun e => by have := HQA.out.km.frT _ (by rw [He0.out]; exact e.symm); rw [HQA.out.hm.tag] at this; cases this)
    have hk8 : w8.heap[B.kb]? = WA.heap[B.kb]? := g8.block _ (lt_of HQA.out.km.box) (fun e => by have := HQA.out.km.frT _ (by rw [He0.out]; exact e.symm); rw [HQA.out.km.tag] at this; cases this)
    have d10 : w8.cell? ⟨h, 10, none⟩ = some (pt B.kb) := (World.cell?_of_block hb8).trans HQA.out.hm.ck
    have d2 : w8.cell? ⟨B.kb, 2, none⟩ = some (.slice ga0 k0 c0) := (World.cell?_of_block hk8).trans (by rw [← He0.out]; exact hd4 HQA.out.km.box 2)
    have z2 : w8.frozen? ⟨B.kb, 2, none⟩ = false := Joins.unfrozen_of_block (hk8.trans HQA.out.km.box) 2
    clear r8 g8 o8 hb8 hk8
    refine hK.out _ _ d10 (fun hHeld => ?_)
    clear hK K'
    try simp only [Act.put, List.getElem_toArray, List.getElem_cons_zero, List.getElem_cons_succ, List.setIfInBounds_toArray, List.set_cons_zero, List.set_cons_succ]
    refine wpAnyH_take (i := 14) (v := ?_) rfl (by kernel_rfl) (by kernel_rfl) (by kernel_rfl) (fun _ _ _ h => h) (Or.inl ⟨by rfl, ?_⟩) (by assumption) ?_
    rotate_left
    · intro w' hSw
      try dsimp only at hSw
      go_simp
      try with_reducible rfl
    try simp only [Act.put, List.getElem_toArray, List.getElem_cons_zero, List.getElem_cons_succ, List.setIfInBounds_toArray, List.set_cons_zero, List.set_cons_succ]
    refine wpAnyH_take (i := 15) (v := ?_) rfl (by kernel_rfl) (by kernel_rfl) (by kernel_rfl) (fun _ _ _ h => h) (Or.inl ⟨by rfl, ?_⟩) (by assumption) ?_
    rotate_left
    · intro w' hSw
      try dsimp only at hSw
      go_simp
      try with_reducible rfl
    try simp only [Act.put, List.getElem_toArray, List.getElem_cons_zero, List.getElem_cons_succ, List.setIfInBounds_toArray, List.set_cons_zero, List.set_cons_succ]
    obtain ⟨γ2, t2', F2, K2⟩ := HQA.out.km.laid (B := B) R8.out (by rw [He0.out]; exact G8.out) (by rw [He0.out]; exact O8.out)
    have f10 := cell_fr F2 HQA.out.hm.ck (by rw [HQA.out.hm.tag]; nofun)
    have HF2 := Hid.mk F2
    have HK2 := Hid.mk K2
    clear F2 K2
    refine wpAnyH_ready (rs := [16]) (by kernel_rfl) (by simp) ?_
    refine AllReadyH.cons rfl (fun K' hK => ?_) AllReadyH.nil
    go_simp
    refine hK.out _ _ f10 (fun hHeld => ?_)
    clear hK K'
    try simp only [Act.put, List.getElem_toArray, List.getElem_cons_zero, List.getElem_cons_succ, List.setIfInBounds_toArray, List.set_cons_zero, List.set_cons_succ]
    refine wpAnyH_done (by kernel_rfl) ?_ _
    go_wp2
    go_ret2
    exact ⟨rfl, γ2, HFR.out.trans (HF2.out.mono (fun t e => tkf_hTn e)), .slice gw nw cw, HQA.out.hm.fr HF2.out (fun u e => e.elim (fun e => .inr (.inl e)) (fun e => .inr (.inr (.inr (.inr (.inl e)))))), HK2.out, HQA.out.ap⟩
  · go_simp
    refine hK.out _ _ a10 (fun hHeld => ?_)
    clear hK K'
    try simp only [Act.put, List.getElem_toArray, List.getElem_cons_zero, List.getElem_cons_succ, List.setIfInBounds_toArray, List.set_cons_zero, List.set_cons_succ]
    generalize (W.alloc (.cells #[.int .i64 t] 3)).drew = WA at *
    refine wpAnyH_ready (rs := [10]) (by kernel_rfl) (by simp) ?_
    refine AllReadyH.cons rfl (fun K' hK => ?_) AllReadyH.nil
    go_simp
    refine hK.out _ _ a10 (fun hHeld => ?_)
    clear hK K'
    try simp only [Act.put, List.getElem_toArray, List.getElem_cons_zero, List.getElem_cons_succ, List.setIfInBounds_toArray, List.set_cons_zero, List.set_cons_succ]
    refine wpAnyH_ready (rs := [13]) (by kernel_rfl) (by simp) ?_
    refine AllReadyH.cons rfl (fun K' hK => ?_) AllReadyH.nil
    refine step_app1 rfl (.tmp 59) (.tmp 61) 31 rfl 0 3 (.int .i64 0) 8 Tryz.underlying31 info3 (by decide) rfl (.slice ga0 k0 c0) K.fresh.length (ints K.fresh) rfl HRA.out W.heap.size _ rfl an rfl (by omega) (Nat.zero_le _) ?_
    intro v' w8 r8 g8 o8
    obtain ⟨gw, nw, cw, rfl⟩ := row_sl r8
    have G8 := Hid.mk g8
    have R8 := Hid.mk r8
    have O8 := Hid.mk o8
    have hb8 : w8.heap[h]? = WA.heap[h]? := g8.block _ HQA.out.hm.lt (fun e => by have := HQA.out.km.frT _ (by rw [He0.out]; exact e.symm); rw [HQA.out.hm.tag] at this; cases this)
    have hk8 : w8.heap[B.kb]? = WA.heap[B.kb]? := g8.block _ (lt_of HQA.out.km.box) (fun e => by have := HQA.out.km.frT _ (by rw [He0.out]; exact e.symm); rw [HQA.out.km.tag] at this; cases this)
    have d10 : w8.cell? ⟨h, 10, none⟩ = some (pt B.kb) := (World.cell?_of_block hb8).trans HQA.out.hm.ck
    have d2 : w8.cell? ⟨B.kb, 2, none⟩ = some (.slice ga0 k0 c0) := (World.cell?_of_block hk8).trans (by rw [← He0.out]; exact hd4 HQA.out.km.box 2)
    have z2 : w8.frozen? ⟨B.kb, 2, none⟩ = false := Joins.unfrozen_of_block (hk8.trans HQA.out.km.box) 2
    clear r8 g8 o8 hb8 hk8
    refine hK.out _ _ d10 (fun hHeld => ?_)
    clear hK K'
    try simp only [Act.put, List.getElem_toArray, List.getElem_cons_zero, List.getElem_cons_succ, List.setIfInBounds_toArray, List.set_cons_zero, List.set_cons_succ]
    refine wpAnyH_take (i := 14) (v := ?_) rfl (by kernel_rfl) (by kernel_rfl) (by kernel_rfl) (fun _ _ _ h => h) (Or.inl ⟨by rfl, ?_⟩) (by assumption) ?_
    rotate_left
    · intro w' hSw
      try dsimp only at hSw
      go_simp
      try with_reducible rfl
    try simp only [Act.put, List.getElem_toArray, List.getElem_cons_zero, List.getElem_cons_succ, List.setIfInBounds_toArray, List.set_cons_zero, List.set_cons_succ]
    refine wpAnyH_take (i := 15) (v := ?_) rfl (by kernel_rfl) (by kernel_rfl) (by kernel_rfl) (fun _ _ _ h => h) (Or.inl ⟨by rfl, ?_⟩) (by assumption) ?_
    rotate_left
    · intro w' hSw
      try dsimp only at hSw
      go_simp
      try with_reducible rfl
    try simp only [Act.put, List.getElem_toArray, List.getElem_cons_zero, List.getElem_cons_succ, List.setIfInBounds_toArray, List.set_cons_zero, List.set_cons_succ]
    obtain ⟨γ2, t2', F2, K2⟩ := HQA.out.km.laid (B := B) R8.out (by rw [He0.out]; exact G8.out) (by rw [He0.out]; exact O8.out)
    have f10 := cell_fr F2 HQA.out.hm.ck (by rw [HQA.out.hm.tag]; nofun)
    have HF2 := Hid.mk F2
    have HK2 := Hid.mk K2
    clear F2 K2
    refine wpAnyH_ready (rs := [16]) (by kernel_rfl) (by simp) ?_
    refine AllReadyH.cons rfl (fun K' hK => ?_) AllReadyH.nil
    go_simp
    refine hK.out _ _ f10 (fun hHeld => ?_)
    clear hK K'
    try simp only [Act.put, List.getElem_toArray, List.getElem_cons_zero, List.getElem_cons_succ, List.setIfInBounds_toArray, List.set_cons_zero, List.set_cons_succ]
    refine wpAnyH_done (by kernel_rfl) ?_ _
    go_wp2
    go_ret2
    exact ⟨rfl, γ2, HFR.out.trans (HF2.out.mono (fun t e => tkf_hTn e)), .slice gw nw cw, HQA.out.hm.fr HF2.out (fun u e => e.elim (fun e => .inr (.inl e)) (fun e => .inr (.inr (.inr (.inr (.inl e)))))), HK2.out, HQA.out.ap⟩
end
end Go.Proofs.YtbdoekffadmejaaGreatDoor

/- Package heap: Evacuate. -/
namespace Go.Proofs.YtbdoekffadmejaaGreatDoor
open Go.RowKit
set_option linter.unusedVariables false
set_option linter.unusedSimpArgs false
set_option maxRecDepth 100000

section
variable {w w' : World} {γ γ' : Nat → Tg} {h : Nat} {A : Ad} {H : Hs} {B : Wa} {K : Wk}
set_option maxHeartbeats 2000000 in
theorem evac_yes (q : Wm w γ h A H B K) (x : Int) (hx : 1 ≤ x ∧ x ≤ 300000) (l : Nat) (hl : l < H.c.g) (hc : isC H x = false) (g0 s0 : Nat) (hav : K.av x = some (g0, s0)) (hm : mvd H K x = none) {y1 y2 : Nat} (hy : nxt H.c (g0, s0) l = (y1, y2))
    (hlen : (H.sp y1 y2).l.length ≤ 1000) (hE : H.layE y1 y2 (szW H.xs x) = 0) (hn0 : A.wn ≤ 1000000) (hfr : K.fresh.length ≤ 1000000) :
    Calls Tryz.prog 22 #[pt h, .int .i64 x, .int .i64 l] w fun e w' => e = .returned (.tuple #[.int .i64 (H.layA y1 y2 (szW H.xs x)), .int .i64 0]) ∧ ∃ γ', Fr hTn w w' γ γ' ∧ ∃ v, Wm w' γ' h A.more (H.went x y1 y2) { B with fv := v } { K with fresh := K.fresh ++ [H.layA y1 y2 (szW H.xs x)] } := by
  have hI : isI x := ⟨by omega, by omega⟩
  have dm := q.km.dom x g0 s0 hav
  have yi := nxt_in q.hm.ok (x := (g0, s0)) ⟨dm.2.2.1, dm.2.2.2⟩ hl
  rw [hy] at yi
  have G := (sg_work q.hm).work
  have c7 := q.hm.co
  have og := q.hm.ok.g
  obtain ⟨ob, cap, e1, _, _⟩ := row_form q.hm.row.out (by omega)
  rw [e1] at c7
  have O := fun W => one_any W l H.c.g
  rw [show oneB (l : Int) H.c.g = true from oneB_yes.2 ⟨by omega, by omega⟩] at O
  have C := isc_any q.hm x hI
  rw [hc] at C
  have AS := fun (W : World) (b : Below w.heap.size w W) => aside_any (q.later b) x hI
  rw [hav] at AS
  have MW := fun (W : World) (b : Below w.heap.size w W) => moved_work (q.later b) x hI
  rw [hm] at MW
  have CK := fun (W : World) (b : Below w.heap.size w W) => (q.later b).hm.ck
  have C1 : ∀ (W : World), Below w.heap.size w W → W.cell? ⟨B.kb, 1, none⟩ = some (.map (some B.am)) := fun (W : World) (b : Below w.heap.size w W) => hd4 (q.later b).km.box 1
  have LK := fun (W : World) (b : Below w.heap.size w W) => (q.later b).km.av.look1 hI
  rw [hav] at LK
  have NX := fun (W : World) (b : Below w.heap.size w W) => next_any (q.later b).hm g0 s0 ⟨dm.2.2.1, dm.2.2.2⟩ l hl
  rw [hy] at NX
  have MV := fun (W : World) (b : Below w.heap.size w W) => move_yes (q.later b) x hx yi.1 yi.2 hlen hE hn0 hfr
  have b0 : (x == 0) = false := by simp; omega
  have n0 : x ≠ 0 := by omega
  generalize H.went x y1 y2 = H2 at *
  generalize H.layA y1 y2 (szW H.xs x) = t at *
  obtain ⟨m, hm'⟩ : ∃ m, H.c.g = m := ⟨_, rfl⟩
  rw [hm'] at c7 O
  simp only [Option.isSome_some, Option.isSome_none, Option.getD_none, Option.getD_some] at AS MW LK
  clear q hm hc hav hE hy dm yi e1 og hlen
  go_enter Tryz.func22, Tryz.ntmps22
  go_wp2_with (first
    | (go_at_call 65; refine G.mono ?_; rintro e w1 ⟨rfl, hw⟩; rw [hw]; clear hw G)
    | (go_at_call 51; refine (O _).mono ?_; rintro e w1 ⟨rfl, hw⟩; rw [hw]; clear hw O)
    | (go_at_call 66; refine C.mono ?_; rintro e w1 ⟨rfl, B1⟩; have HB1 := Hid.mk B1; have A1 := AS _ B1; clear B1 C AS)
    | (go_at_call 67; refine A1.mono ?_; rintro e w2 ⟨rfl, B2⟩; have HB2 := Hid.mk (HB1.out.trans (B2.mono HB1.out.size)); have M1 := MW _ HB2.out; clear B2 MW A1)
    | (go_at_call 68; refine M1.mono ?_; rintro e w3 ⟨rfl, B3⟩; have HB3 := Hid.mk (HB2.out.trans (B3.mono HB2.out.size)); have ck := CK _ HB3.out; have c1 := C1 _ HB3.out; have lk := LK _ HB3.out; have N1 := NX _ HB3.out; clear B3 CK C1 LK NX M1)
    | (go_at_call 70; refine N1.mono ?_; rintro e w4 ⟨rfl, B4⟩; have HB4 := Hid.mk (HB3.out.trans (B4.mono HB3.out.size)); have V1 := MV _ HB4.out; clear B4 MV N1)
    | (go_at_call 69; refine V1.mono ?_; rintro e w5 ⟨rfl, γ1, F1, v, Q1⟩; have HF := Hid.mk ((Fr.later hTn γ HB4.out).trans F1); have HQ := Hid.mk Q1; clear F1 Q1 V1))
  go_ret2
  exact ⟨rfl, γ1, HF.out, v, HQ.out⟩
end
end Go.Proofs.YtbdoekffadmejaaGreatDoor

/- Package heap: has a closure such a pointer; is there such a one in a list. -/
namespace Go.Proofs.YtbdoekffadmejaaGreatDoor
open Go.RowKit
set_option linter.unusedVariables false
set_option linter.unusedSimpArgs false
set_option maxRecDepth 100000

/-- Has a closure a pointer of which q says so. -/
def anyP (q : Int → Bool) (H : Hs) (x : Int) : Bool := (List.range (Wo.unP (Bp.Ar.readW H.xs x)).toNat).any fun j => q (ptrW H.xs (x + 1 + j))
theorem ptr_isI {xs : List Int} (h : ∀ x ∈ xs, 0 ≤ x ∧ x ≤ 18446744073709551615) (i : Int) : isI (ptrW xs i) := by
  have := read_in h i
  unfold ptrW wrap64 isI Bp.isI
  omega
section
variable {w w' : World} {γ γ' : Nat → Tg} {h : Nat} {k : Value} {A : Ad} {H : Hs} {B : Wa} {K : Wk}
set_option maxHeartbeats 1000000 in
theorem has_aside (q : Wm w γ h A H B K) (x : Int) (hx : 0 ≤ x ∧ x ≤ 900000) :
    Calls Tryz.prog 134 #[pt h, .int .i64 x, .func (.func 67) #[pt h] #[]] w fun e w' => e = .returned (.bool (anyP (fun p => (K.av p).isSome) H x)) ∧ Below w.heap.size w w' := by
  have CA := fun (W : World) (b : Below w.heap.size w W) (p : Int) (hp : isI p) => aside_any (q.later b) p hp
  have q0 := q.hm
  clear q
  have HD := head_any q0 x
  unfold hdV at HD
  have fl := fld2
  have PR := fun (W : World) (b : Below w.heap.size w W) (j : Int) (hj : 0 ≤ j ∧ j ≤ 1000000) => pointer_any (q0.later b) x j (by omega) hj
  have HP : Hid (∀ j : Nat, isI (ptrW H.xs (x + 1 + j))) := ⟨fun j => ptr_isI q0.word _⟩
  have HN := Hid.mk (unP_in (Bp.Ar.readW H.xs x))
  unfold anyP
  obtain ⟨n, hn⟩ : ∃ n : Nat, (Wo.unP (Bp.Ar.readW H.xs x)).toNat = n := ⟨_, rfl⟩
  have hn1 : Wo.unP (Bp.Ar.readW H.xs x) = n := by have := HN.out; omega
  have hn2 : n ≤ 4095 := by have := HN.out; omega
  rw [hn]
  rw [hn1] at HD
  clear hn hn1 HN
  generalize Wo.unK (Bp.Ar.readW H.xs x) = u1 at *
  generalize Wo.unI (Bp.Ar.readW H.xs x) = u2 at *
  generalize Wo.unN (Bp.Ar.readW H.xs x) = u3 at *
  have HX := Hid.mk q0
  clear q0
  go_enter Tryz.func134, Tryz.ntmps134
  go_wp2_with (go_at_call 50; refine HD.mono ?_; rintro e w1 ⟨rfl, B1⟩; have HB1 := Hid.mk B1; clear B1)
  go_loopw [12] (fun i wr => ∃ k : Nat, i = .int .i64 k ∧ k ≤ n ∧ Hid (∀ j, j < k → (fun p => (K.av p).isSome) (ptrW H.xs (x + 1 + j)) = false) ∧ Hid (Below w.heap.size w wr)) (fun i _ => n - (intOf i).toNat)
  case atStart => exact ⟨0, rfl, Nat.zero_le _, ⟨fun j hj => absurd hj (Nat.not_lt_zero _)⟩, HB1⟩
  case round =>
    obtain ⟨k, rfl, hk, HF, HB⟩ := hrel
    by_cases hlt : k < n
    · have hlt' : (k : Int) < n := by omega
      have P1 := PR _ HB.out k (by omega)
      have AK := fun (W : World) (b : Below w.heap.size w W) => CA W b _ (HP.out k)
      have HV := Hid.mk HF.out
      generalize hp : ptrW H.xs (x + 1 + k) = p at P1 AK
      cases hz : (fun p => (K.av p).isSome) p with
      | true =>
        have e : Hid (((List.range n).any fun j => (fun p => (K.av p).isSome) (ptrW H.xs (x + 1 + j))) = true) := ⟨List.any_eq_true.2 ⟨k, by simpa using hlt, by rw [hp]; exact hz⟩⟩
        have AK := fun (W : World) (b : Below w.heap.size w W) => (AK W b)
        simp only [hz] at AK
        go_wp2_with (first
          | (go_at_call 52; refine P1.mono ?_; rintro e w2 ⟨rfl, hw⟩; rw [hw]; clear hw)
          | (go_at_call 67; refine (AK _ HB.out).mono ?_; rintro e w2 ⟨rfl, B2⟩; have HB2 := Hid.mk (HB.out.trans (B2.mono HB.out.size)); clear B2))
        go_ret
        exact ⟨by rw [e.out]; rfl, HB2.out⟩
      | false =>
        simp only [hz] at AK
        go_wp2_with (first
          | (go_at_call 52; refine P1.mono ?_; rintro e w2 ⟨rfl, hw⟩; rw [hw]; clear hw)
          | (go_at_call 67; refine (AK _ HB.out).mono ?_; rintro e w2 ⟨rfl, B2⟩; have HB2 := Hid.mk (HB.out.trans (B2.mono HB.out.size)); clear B2))
        go_roundw
        case rel => exact ⟨k + 1, by go_num, by omega, ⟨fun j hj => (Nat.lt_succ_iff_lt_or_eq.1 hj).elim (HF.out j) (fun e => by rw [e, hp]; exact hz)⟩, HB2⟩
        case measure => simp [intOf]; omega
    · obtain rfl : k = n := by omega
      have e : Hid (((List.range k).any fun j => (fun p => (K.av p).isSome) (ptrW H.xs (x + 1 + j))) = false) := ⟨List.any_eq_false.2 (fun j hj => by rw [HF.out j (by simpa using hj)]; simp)⟩
      go_wp2
      go_ret
      exact ⟨by rw [e.out]; rfl, HB.out⟩
theorem younger_any (q : Hm w γ h k A H) (x : Int) (hx : isI x) {b1 b2 : Nat} (c1 : w.cell? ⟨b1, 0, none⟩ = some (pt h)) (c2 : w.cell? ⟨b2, 0, none⟩ = some (.int .i64 x)) (p : Int) (hp : isI p) :
    Calls Tryz.prog 138 #[.int .i64 p, pt b1, pt b2] w fun e w' => e = .returned (.bool (youngB H p x)) ∧ Below w.heap.size w w' := by
  have Y := young_any q p x hp hx
  clear q
  go_enter Tryz.func138, Tryz.ntmps138
  go_wp2_with (go_at_call 126; refine Y.mono ?_; rintro e w1 ⟨rfl, B1⟩)
  go_ret
  exact ⟨rfl, B1⟩
set_option maxHeartbeats 1000000 in
theorem has_younger (q0 : Hm w γ h k A H) {b1 b2 : Nat} (x : Int) (hx : 0 ≤ x ∧ x ≤ 900000) (c1 : w.cell? ⟨b1, 0, none⟩ = some (pt h)) (c2 : w.cell? ⟨b2, 0, none⟩ = some (.int .i64 x)) :
    Calls Tryz.prog 134 #[pt h, .int .i64 x, .func (.func 138) #[] #[pt b1, pt b2]] w fun e w' => e = .returned (.bool (anyP (fun p => youngB H p x) H x)) ∧ Below w.heap.size w w' := by
  have CA := fun (W : World) (b : Below w.heap.size w W) (p : Int) (hp : isI p) => younger_any (q0.later b) x ⟨by omega, by omega⟩ ((b.cell (World.block_lt_of_cell? _ _ c1)).trans c1) ((b.cell (World.block_lt_of_cell? _ _ c2)).trans c2) p hp
  have HD := head_any q0 x
  unfold hdV at HD
  have fl := fld2
  have PR := fun (W : World) (b : Below w.heap.size w W) (j : Int) (hj : 0 ≤ j ∧ j ≤ 1000000) => pointer_any (q0.later b) x j (by omega) hj
  have HP : Hid (∀ j : Nat, isI (ptrW H.xs (x + 1 + j))) := ⟨fun j => ptr_isI q0.word _⟩
  have HN := Hid.mk (unP_in (Bp.Ar.readW H.xs x))
  unfold anyP
  obtain ⟨n, hn⟩ : ∃ n : Nat, (Wo.unP (Bp.Ar.readW H.xs x)).toNat = n := ⟨_, rfl⟩
  have hn1 : Wo.unP (Bp.Ar.readW H.xs x) = n := by have := HN.out; omega
  have hn2 : n ≤ 4095 := by have := HN.out; omega
  rw [hn]
  rw [hn1] at HD
  clear hn hn1 HN
  generalize Wo.unK (Bp.Ar.readW H.xs x) = u1 at *
  generalize Wo.unI (Bp.Ar.readW H.xs x) = u2 at *
  generalize Wo.unN (Bp.Ar.readW H.xs x) = u3 at *
  have HX := Hid.mk q0
  clear q0
  go_enter Tryz.func134, Tryz.ntmps134
  go_wp2_with (go_at_call 50; refine HD.mono ?_; rintro e w1 ⟨rfl, B1⟩; have HB1 := Hid.mk B1; clear B1)
  go_loopw [12] (fun i wr => ∃ k : Nat, i = .int .i64 k ∧ k ≤ n ∧ Hid (∀ j, j < k → (fun p => youngB H p x) (ptrW H.xs (x + 1 + j)) = false) ∧ Hid (Below w.heap.size w wr)) (fun i _ => n - (intOf i).toNat)
  case atStart => exact ⟨0, rfl, Nat.zero_le _, ⟨fun j hj => absurd hj (Nat.not_lt_zero _)⟩, HB1⟩
  case round =>
    obtain ⟨k, rfl, hk, HF, HB⟩ := hrel
    by_cases hlt : k < n
    · have hlt' : (k : Int) < n := by omega
      have P1 := PR _ HB.out k (by omega)
      have AK := fun (W : World) (b : Below w.heap.size w W) => CA W b _ (HP.out k)
      have HV := Hid.mk HF.out
      generalize hp : ptrW H.xs (x + 1 + k) = p at P1 AK
      cases hz : (fun p => youngB H p x) p with
      | true =>
        have e : Hid (((List.range n).any fun j => (fun p => youngB H p x) (ptrW H.xs (x + 1 + j))) = true) := ⟨List.any_eq_true.2 ⟨k, by simpa using hlt, by rw [hp]; exact hz⟩⟩
        have AK := fun (W : World) (b : Below w.heap.size w W) => (AK W b)
        simp only [hz] at AK
        go_wp2_with (first
          | (go_at_call 52; refine P1.mono ?_; rintro e w2 ⟨rfl, hw⟩; rw [hw]; clear hw)
          | (go_at_call 138; refine (AK _ HB.out).mono ?_; rintro e w2 ⟨rfl, B2⟩; have HB2 := Hid.mk (HB.out.trans (B2.mono HB.out.size)); clear B2))
        go_ret
        exact ⟨by rw [e.out]; rfl, HB2.out⟩
      | false =>
        simp only [hz] at AK
        go_wp2_with (first
          | (go_at_call 52; refine P1.mono ?_; rintro e w2 ⟨rfl, hw⟩; rw [hw]; clear hw)
          | (go_at_call 138; refine (AK _ HB.out).mono ?_; rintro e w2 ⟨rfl, B2⟩; have HB2 := Hid.mk (HB.out.trans (B2.mono HB.out.size)); clear B2))
        go_roundw
        case rel => exact ⟨k + 1, by go_num, by omega, ⟨fun j hj => (Nat.lt_succ_iff_lt_or_eq.1 hj).elim (HF.out j) (fun e => by rw [e, hp]; exact hz)⟩, HB2⟩
        case measure => simp [intOf]; omega
    · obtain rfl : k = n := by omega
      have e : Hid (((List.range k).any fun j => (fun p => youngB H p x) (ptrW H.xs (x + 1 + j))) = false) := ⟨List.any_eq_false.2 (fun j hj => by rw [HF.out j (by simpa using hj)]; simp)⟩
      go_wp2
      go_ret
      exact ⟨by rw [e.out]; rfl, HB.out⟩
end
end Go.Proofs.YtbdoekffadmejaaGreatDoor

/- Package heap: a closure stands in its list just if it must; which closures of a list have a pointer to what was set aside. -/
namespace Go.Proofs.YtbdoekffadmejaaGreatDoor
open Go.RowKit
set_option linter.unusedVariables false
set_option linter.unusedSimpArgs false
set_option maxRecDepth 100000

section
variable {w w' : World} {γ γ' : Nat → Tg} {h : Nat} {k : Value} {A : Ad} {H : Hs} {B : Wa} {K : Wk}
/-- The lists behind Finish's enlist. -/
def enL (H : Hs) (x : Int) : Nat → List Int := if anyP (fun p => youngB H p x) H x = true then Rm.putS H.c.g H.L (genN H x) x else Rm.dropS H.c.g H.L (genN H x) x
set_option maxHeartbeats 1000000 in
theorem enlist_any (q : Hm w γ h k A H) (x : Int) (hx : 0 ≤ x ∧ x ≤ 900000) :
    Calls Tryz.prog 83 #[pt h, .int .i64 x] w fun e w' => e = .returned (.tuple #[]) ∧ ∃ γ', Fr (fun t => t = .lm false) w w' γ γ' ∧ Hm w' γ' h k A { H with L := enL H x } := by
  have fl := fldg
  have q1 := q.alloc (.cells #[pt h] 38) (.x 0)
  have q2 := q1.alloc (.cells #[.int .i64 x] 3) (.x 0)
  have F1 := Fr.alloc (fun t => t = .lm false) w γ (.cells #[pt h] 38) (.x 0)
  have F2 := Fr.alloc (fun t => t = .lm false) (w.alloc (.cells #[pt h] 38)) (tagd γ w.heap.size (.x 0)) (.cells #[.int .i64 x] 3) (.x 0)
  rw [World.size_alloc] at q2 F2
  have c1 : ((w.alloc (.cells #[pt h] 38)).alloc (.cells #[.int .i64 x] 3)).cell? ⟨w.heap.size, 0, none⟩ = some (pt h) := ((Below.refl _ _).alloc (Nat.le_refl _) _).cell (p := ⟨w.heap.size, 0, none⟩) (by simp) |>.trans (cell_new1 w _ 38)
  have c2 : ((w.alloc (.cells #[pt h] 38)).alloc (.cells #[.int .i64 x] 3)).cell? ⟨w.heap.size + 1, 0, none⟩ = some (.int .i64 x) := by
    have t := cell_new1 (w.alloc (.cells #[pt h] 38)) (.int .i64 x) 3
    rw [World.size_alloc] at t
    exact t
  have Y := has_younger q2 (b1 := w.heap.size) (b2 := w.heap.size + 1) x hx c1 c2
  have HX : Hid (isI x) := ⟨⟨by omega, by omega⟩⟩
  have HF0 := Hid.mk (F1.trans F2)
  have HQ0 := Hid.mk q2
  have HT1 : Hid (tagd (tagd γ w.heap.size (.x 0)) (w.heap.size + 1) (.x 0) w.heap.size = .x 0) := ⟨by rw [tagd_ne _ (by omega), tagd_same]⟩
  have HT2 : Hid (tagd (tagd γ w.heap.size (.x 0)) (w.heap.size + 1) (.x 0) (w.heap.size + 1) = .x 0) := ⟨tagd_same _ _ _⟩
  unfold enL genN
  obtain ⟨y, hy0⟩ : ∃ y, (H.wh x).getD (0, 0) = y := ⟨_, rfl⟩
  rw [hy0]
  have HY := Hid.mk hy0
  clear hy0 F1 F2 q1 q2 q
  generalize tagd (tagd γ w.heap.size (.x 0)) (w.heap.size + 1) (.x 0) = γ1 at *
  cases hy : anyP (fun p => youngB H p x) H x with
  | true =>
    rw [hy] at Y
    rw [if_pos rfl]
    clear hy
    go_enter Tryz.func83, Tryz.ntmps83
    go_wp2_with (go_at_call 134; refine Y.mono ?_; rintro e w2 ⟨rfl, B2⟩; have HB2 := Hid.mk B2; have d1 := (B2.cell (World.block_lt_of_cell? _ _ c1)).trans c1; have d2 := (B2.cell (World.block_lt_of_cell? _ _ c2)).trans c2; have HQ := Hid.mk (HQ0.out.later (B2.trans ((below_drew1 w2).mono B2.size))); clear B2 Y)
    have d1 : w2.drew.cell? ⟨w.heap.size, 0, none⟩ = some (pt h) := d1
    have d2 : w2.drew.cell? ⟨w.heap.size + 1, 0, none⟩ = some (.int .i64 x) := d2
    have d8 := HQ.out.cw
    have d9 := HQ.out.cl
    have HWM := Hid.mk HQ.out.wh
    have PU := put_li HQ.out.li (genN H x) x
    have HFR := Hid.mk (HF0.out.trans (Fr.later (fun t => t = .lm false) _ (HB2.out.trans ((below_drew1 w2).mono HB2.out.size))))
    unfold genN at PU
    rw [HY.out] at PU
    refine wp_region_held_drew (S := (fun wx => wx.cell? ⟨w.heap.size, 0, none⟩ = some (pt h) ∧ wx.cell? ⟨w.heap.size + 1, 0, none⟩ = some (.int .i64 x) ∧ wx.cell? ⟨h, 9, none⟩ = some (pt A.l) ∧ wx.cell? ⟨h, 8, none⟩ = some (.map (some A.wm)) ∧ WM wx A.wm A.wn H.wh)) (by kernel_rfl) ⟨d1, d2, d9, d8, HWM.out⟩ (fun hHeld => ?_)
    refine wpAnyH_take (i := 0) (v := ?_) rfl (by kernel_rfl) (by kernel_rfl) (by kernel_rfl) (fun _ _ _ h => h) (Or.inl ⟨by rfl, ?_⟩) (by assumption) ?_
    rotate_left
    · intro w' hSw
      try dsimp only at hSw
      go_simp
      try with_reducible rfl
    try simp only [Act.put, List.getElem_toArray, List.getElem_cons_zero, List.getElem_cons_succ, List.setIfInBounds_toArray, List.set_cons_zero, List.set_cons_succ]
    refine wpAnyH_take (i := 1) (v := ?_) rfl (by kernel_rfl) (by kernel_rfl) (by kernel_rfl) (fun _ _ _ h => h) (Or.inl ⟨by rfl, ?_⟩) (by assumption) ?_
    rotate_left
    · intro w' hSw
      try dsimp only at hSw
      go_simp
      try with_reducible rfl
    try simp only [Act.put, List.getElem_toArray, List.getElem_cons_zero, List.getElem_cons_succ, List.setIfInBounds_toArray, List.set_cons_zero, List.set_cons_succ]
    refine wpAnyH_take (i := 2) (v := ?_) rfl (by kernel_rfl) (by kernel_rfl) (by kernel_rfl) (fun _ _ _ h => h) (Or.inl ⟨by rfl, ?_⟩) (by assumption) ?_
    rotate_left
    · intro w' hSw
      try dsimp only at hSw
      go_simp
      try with_reducible rfl
    try simp only [Act.put, List.getElem_toArray, List.getElem_cons_zero, List.getElem_cons_succ, List.setIfInBounds_toArray, List.set_cons_zero, List.set_cons_succ]
    refine wpAnyH_take (i := 3) (v := ?_) rfl (by kernel_rfl) (by kernel_rfl) (by kernel_rfl) (fun _ _ _ h => h) (Or.inl ⟨by rfl, ?_⟩) (by assumption) ?_
    rotate_left
    · intro w' hSw
      try dsimp only at hSw
      go_simp
      try with_reducible rfl
    try simp only [Act.put, List.getElem_toArray, List.getElem_cons_zero, List.getElem_cons_succ, List.setIfInBounds_toArray, List.set_cons_zero, List.set_cons_succ]
    refine wpAnyH_take (i := 4) (v := ?_) rfl (by kernel_rfl) (by kernel_rfl) (by kernel_rfl) (fun _ _ _ h => h) (Or.inl ⟨by rfl, ?_⟩) (by assumption) ?_
    rotate_left
    · intro w' hSw
      try dsimp only at hSw
      go_simp
      try with_reducible rfl
    try simp only [Act.put, List.getElem_toArray, List.getElem_cons_zero, List.getElem_cons_succ, List.setIfInBounds_toArray, List.set_cons_zero, List.set_cons_succ]
    refine wpAnyH_take (i := 5) (v := ?_) rfl (by kernel_rfl) (by kernel_rfl) (by kernel_rfl) (fun _ _ _ h => h) (Or.inl ⟨by rfl, ?_⟩) (by assumption) ?_
    rotate_left
    · intro w' hSw
      try dsimp only at hSw
      go_simp
      try with_reducible rfl
    try simp only [Act.put, List.getElem_toArray, List.getElem_cons_zero, List.getElem_cons_succ, List.setIfInBounds_toArray, List.set_cons_zero, List.set_cons_succ]
    refine wpAnyH_take (i := 6) (v := ?_) rfl (by kernel_rfl) (by kernel_rfl) (by kernel_rfl) (fun _ _ _ h => h) (Or.inl ⟨by rfl, ?_⟩) (by assumption) ?_
    rotate_left
    · intro w' hSw
      try dsimp only at hSw
      go_simp
      try with_reducible rfl
    try simp only [Act.put, List.getElem_toArray, List.getElem_cons_zero, List.getElem_cons_succ, List.setIfInBounds_toArray, List.set_cons_zero, List.set_cons_succ]
    refine wpAnyH_take (i := 7) (v := ?_) rfl (by kernel_rfl) (by kernel_rfl) (by kernel_rfl) (fun _ _ _ h => h) (Or.inl ⟨by rfl, ?_⟩) (by assumption) ?_
    rotate_left
    · intro w' hSw
      try dsimp only at hSw
      go_simp
      try with_reducible rfl
    try simp only [Act.put, List.getElem_toArray, List.getElem_cons_zero, List.getElem_cons_succ, List.setIfInBounds_toArray, List.set_cons_zero, List.set_cons_succ]
    refine wpAnyH_take (i := 8) (v := ?_) rfl (by kernel_rfl) (by kernel_rfl) (by kernel_rfl) (fun _ _ _ h => h) (Or.inl ⟨by rfl, ?_⟩) (by assumption) ?_
    rotate_left
    · intro w' hSw
      try dsimp only at hSw
      go_simp
      try with_reducible rfl
    try simp only [Act.put, List.getElem_toArray, List.getElem_cons_zero, List.getElem_cons_succ, List.setIfInBounds_toArray, List.set_cons_zero, List.set_cons_succ]
    refine wpAnyH_take (i := 9) (v := plc y) rfl (by kernel_rfl) (by kernel_rfl) (by kernel_rfl) (fun _ _ _ h => h) (Or.inl ⟨by rfl, ?_⟩) (by assumption) ?_
    · intro w' hSw
      have hlk := hSw.2.2.2.2.look1 HX.out
      rw [HY.out] at hlk
      go_simp
      try with_reducible rfl
    try simp only [Act.put, List.getElem_toArray, List.getElem_cons_zero, List.getElem_cons_succ, List.setIfInBounds_toArray, List.set_cons_zero, List.set_cons_succ]
    refine wpAnyH_take (i := 10) (v := ?_) rfl (by kernel_rfl) (by kernel_rfl) (by kernel_rfl) (fun _ _ _ h => h) (Or.inl ⟨by rfl, ?_⟩) (by assumption) ?_
    rotate_left
    · intro w' hSw
      try dsimp only at hSw
      go_simp
      try with_reducible rfl
    try simp only [Act.put, List.getElem_toArray, List.getElem_cons_zero, List.getElem_cons_succ, List.setIfInBounds_toArray, List.set_cons_zero, List.set_cons_succ]
    refine wpAnyH_take (i := 11) (v := ?_) rfl (by kernel_rfl) (by kernel_rfl) (by kernel_rfl) (fun _ _ _ h => h) (Or.inl ⟨by rfl, ?_⟩) (by assumption) ?_
    rotate_left
    · intro w' hSw
      try dsimp only at hSw
      go_simp
      try with_reducible rfl
    try simp only [Act.put, List.getElem_toArray, List.getElem_cons_zero, List.getElem_cons_succ, List.setIfInBounds_toArray, List.set_cons_zero, List.set_cons_succ]
    refine wpAnyH_ready (rs := [12]) (by kernel_rfl) (by simp) ?_
    refine AllReadyH.cons rfl (fun K hK => ?_) AllReadyH.nil
    go_simp
    (go_at_call 127; refine PU.mono ?_; rintro e w3 ⟨rfl, L3, F3⟩; have f1 := cell_fr F3 d1 (by rw [HT1.out]; nofun); have f2 := cell_fr F3 d2 (by rw [HT2.out]; nofun); have f9 := cell_fr F3 d9 (by rw [HQ.out.tag]; nofun); have f8 := cell_fr F3 d8 (by rw [HQ.out.tag]; nofun); have HM3 := Hid.mk (HWM.out.fr F3 (by rw [HQ.out.whT]; nofun)); have HL3 := Hid.mk L3; have HF3 := Hid.mk F3; clear L3 F3)
    try go_wp2_with fail
    refine hK.out _ _ ⟨f1, f2, f9, f8, HM3.out⟩ (fun hHeld => ?_)
    clear hK K
    try simp only [Act.put, List.getElem_toArray, List.getElem_cons_zero, List.getElem_cons_succ, List.setIfInBounds_toArray, List.set_cons_zero, List.set_cons_succ]
    refine wpAnyH_done (by kernel_rfl) ?_ _
    go_wp2
    go_end0
    exact ⟨rfl, _, HFR.out.trans HF3.out, HQ.out.lists HL3.out (HF3.out.mono (fun t e => .inl e))⟩
  | false =>
    rw [hy] at Y
    rw [if_neg (by decide)]
    clear hy
    go_enter Tryz.func83, Tryz.ntmps83
    go_wp2_with (go_at_call 134; refine Y.mono ?_; rintro e w2 ⟨rfl, B2⟩; have HB2 := Hid.mk B2; have d1 := (B2.cell (World.block_lt_of_cell? _ _ c1)).trans c1; have d2 := (B2.cell (World.block_lt_of_cell? _ _ c2)).trans c2; have HQ := Hid.mk (HQ0.out.later (B2.trans ((below_drew1 w2).mono B2.size))); clear B2 Y)
    have d1 : w2.drew.cell? ⟨w.heap.size, 0, none⟩ = some (pt h) := d1
    have d2 : w2.drew.cell? ⟨w.heap.size + 1, 0, none⟩ = some (.int .i64 x) := d2
    have d8 := HQ.out.cw
    have d9 := HQ.out.cl
    have HWM := Hid.mk HQ.out.wh
    have PU := drop_li HQ.out.li (genN H x) x
    have HFR := Hid.mk (HF0.out.trans (Fr.later (fun t => t = .lm false) _ (HB2.out.trans ((below_drew1 w2).mono HB2.out.size))))
    unfold genN at PU
    rw [HY.out] at PU
    refine wp_region_held_drew (S := (fun wx => wx.cell? ⟨w.heap.size, 0, none⟩ = some (pt h) ∧ wx.cell? ⟨w.heap.size + 1, 0, none⟩ = some (.int .i64 x) ∧ wx.cell? ⟨h, 9, none⟩ = some (pt A.l) ∧ wx.cell? ⟨h, 8, none⟩ = some (.map (some A.wm)) ∧ WM wx A.wm A.wn H.wh)) (by kernel_rfl) ⟨d1, d2, d9, d8, HWM.out⟩ (fun hHeld => ?_)
    refine wpAnyH_take (i := 0) (v := ?_) rfl (by kernel_rfl) (by kernel_rfl) (by kernel_rfl) (fun _ _ _ h => h) (Or.inl ⟨by rfl, ?_⟩) (by assumption) ?_
    rotate_left
    · intro w' hSw
      try dsimp only at hSw
      go_simp
      try with_reducible rfl
    try simp only [Act.put, List.getElem_toArray, List.getElem_cons_zero, List.getElem_cons_succ, List.setIfInBounds_toArray, List.set_cons_zero, List.set_cons_succ]
    refine wpAnyH_take (i := 1) (v := ?_) rfl (by kernel_rfl) (by kernel_rfl) (by kernel_rfl) (fun _ _ _ h => h) (Or.inl ⟨by rfl, ?_⟩) (by assumption) ?_
    rotate_left
    · intro w' hSw
      try dsimp only at hSw
      go_simp
      try with_reducible rfl
    try simp only [Act.put, List.getElem_toArray, List.getElem_cons_zero, List.getElem_cons_succ, List.setIfInBounds_toArray, List.set_cons_zero, List.set_cons_succ]
    refine wpAnyH_take (i := 2) (v := ?_) rfl (by kernel_rfl) (by kernel_rfl) (by kernel_rfl) (fun _ _ _ h => h) (Or.inl ⟨by rfl, ?_⟩) (by assumption) ?_
    rotate_left
    · intro w' hSw
      try dsimp only at hSw
      go_simp
      try with_reducible rfl
    try simp only [Act.put, List.getElem_toArray, List.getElem_cons_zero, List.getElem_cons_succ, List.setIfInBounds_toArray, List.set_cons_zero, List.set_cons_succ]
    refine wpAnyH_take (i := 3) (v := ?_) rfl (by kernel_rfl) (by kernel_rfl) (by kernel_rfl) (fun _ _ _ h => h) (Or.inl ⟨by rfl, ?_⟩) (by assumption) ?_
    rotate_left
    · intro w' hSw
      try dsimp only at hSw
      go_simp
      try with_reducible rfl
    try simp only [Act.put, List.getElem_toArray, List.getElem_cons_zero, List.getElem_cons_succ, List.setIfInBounds_toArray, List.set_cons_zero, List.set_cons_succ]
    refine wpAnyH_take (i := 4) (v := ?_) rfl (by kernel_rfl) (by kernel_rfl) (by kernel_rfl) (fun _ _ _ h => h) (Or.inl ⟨by rfl, ?_⟩) (by assumption) ?_
    rotate_left
    · intro w' hSw
      try dsimp only at hSw
      go_simp
      try with_reducible rfl
    try simp only [Act.put, List.getElem_toArray, List.getElem_cons_zero, List.getElem_cons_succ, List.setIfInBounds_toArray, List.set_cons_zero, List.set_cons_succ]
    refine wpAnyH_take (i := 5) (v := ?_) rfl (by kernel_rfl) (by kernel_rfl) (by kernel_rfl) (fun _ _ _ h => h) (Or.inl ⟨by rfl, ?_⟩) (by assumption) ?_
    rotate_left
    · intro w' hSw
      try dsimp only at hSw
      go_simp
      try with_reducible rfl
    try simp only [Act.put, List.getElem_toArray, List.getElem_cons_zero, List.getElem_cons_succ, List.setIfInBounds_toArray, List.set_cons_zero, List.set_cons_succ]
    refine wpAnyH_take (i := 6) (v := ?_) rfl (by kernel_rfl) (by kernel_rfl) (by kernel_rfl) (fun _ _ _ h => h) (Or.inl ⟨by rfl, ?_⟩) (by assumption) ?_
    rotate_left
    · intro w' hSw
      try dsimp only at hSw
      go_simp
      try with_reducible rfl
    try simp only [Act.put, List.getElem_toArray, List.getElem_cons_zero, List.getElem_cons_succ, List.setIfInBounds_toArray, List.set_cons_zero, List.set_cons_succ]
    refine wpAnyH_take (i := 7) (v := ?_) rfl (by kernel_rfl) (by kernel_rfl) (by kernel_rfl) (fun _ _ _ h => h) (Or.inl ⟨by rfl, ?_⟩) (by assumption) ?_
    rotate_left
    · intro w' hSw
      try dsimp only at hSw
      go_simp
      try with_reducible rfl
    try simp only [Act.put, List.getElem_toArray, List.getElem_cons_zero, List.getElem_cons_succ, List.setIfInBounds_toArray, List.set_cons_zero, List.set_cons_succ]
    refine wpAnyH_take (i := 8) (v := ?_) rfl (by kernel_rfl) (by kernel_rfl) (by kernel_rfl) (fun _ _ _ h => h) (Or.inl ⟨by rfl, ?_⟩) (by assumption) ?_
    rotate_left
    · intro w' hSw
      try dsimp only at hSw
      go_simp
      try with_reducible rfl
    try simp only [Act.put, List.getElem_toArray, List.getElem_cons_zero, List.getElem_cons_succ, List.setIfInBounds_toArray, List.set_cons_zero, List.set_cons_succ]
    refine wpAnyH_take (i := 9) (v := plc y) rfl (by kernel_rfl) (by kernel_rfl) (by kernel_rfl) (fun _ _ _ h => h) (Or.inl ⟨by rfl, ?_⟩) (by assumption) ?_
    · intro w' hSw
      have hlk := hSw.2.2.2.2.look1 HX.out
      rw [HY.out] at hlk
      go_simp
      try with_reducible rfl
    try simp only [Act.put, List.getElem_toArray, List.getElem_cons_zero, List.getElem_cons_succ, List.setIfInBounds_toArray, List.set_cons_zero, List.set_cons_succ]
    refine wpAnyH_take (i := 10) (v := ?_) rfl (by kernel_rfl) (by kernel_rfl) (by kernel_rfl) (fun _ _ _ h => h) (Or.inl ⟨by rfl, ?_⟩) (by assumption) ?_
    rotate_left
    · intro w' hSw
      try dsimp only at hSw
      go_simp
      try with_reducible rfl
    try simp only [Act.put, List.getElem_toArray, List.getElem_cons_zero, List.getElem_cons_succ, List.setIfInBounds_toArray, List.set_cons_zero, List.set_cons_succ]
    refine wpAnyH_take (i := 11) (v := ?_) rfl (by kernel_rfl) (by kernel_rfl) (by kernel_rfl) (fun _ _ _ h => h) (Or.inl ⟨by rfl, ?_⟩) (by assumption) ?_
    rotate_left
    · intro w' hSw
      try dsimp only at hSw
      go_simp
      try with_reducible rfl
    try simp only [Act.put, List.getElem_toArray, List.getElem_cons_zero, List.getElem_cons_succ, List.setIfInBounds_toArray, List.set_cons_zero, List.set_cons_succ]
    refine wpAnyH_ready (rs := [12]) (by kernel_rfl) (by simp) ?_
    refine AllReadyH.cons rfl (fun K hK => ?_) AllReadyH.nil
    go_simp
    (go_at_call 139; refine PU.mono ?_; rintro e w3 ⟨rfl, L3, F3⟩; have f1 := cell_fr F3 d1 (by rw [HT1.out]; nofun); have f2 := cell_fr F3 d2 (by rw [HT2.out]; nofun); have f9 := cell_fr F3 d9 (by rw [HQ.out.tag]; nofun); have f8 := cell_fr F3 d8 (by rw [HQ.out.tag]; nofun); have HM3 := Hid.mk (HWM.out.fr F3 (by rw [HQ.out.whT]; nofun)); have HL3 := Hid.mk L3; have HF3 := Hid.mk F3; clear L3 F3)
    try go_wp2_with fail
    refine hK.out _ _ ⟨f1, f2, f9, f8, HM3.out⟩ (fun hHeld => ?_)
    clear hK K
    try simp only [Act.put, List.getElem_toArray, List.getElem_cons_zero, List.getElem_cons_succ, List.setIfInBounds_toArray, List.set_cons_zero, List.set_cons_succ]
    refine wpAnyH_done (by kernel_rfl) ?_ _
    go_wp2
    go_end0
    exact ⟨rfl, _, HFR.out.trans HF3.out, HQ.out.lists HL3.out (HF3.out.mono (fun t e => .inl e))⟩

theorem aside80 (q : Wm w γ h A H B K) (x : Int) (hx : 0 ≤ x ∧ x ≤ 900000) :
    Calls Tryz.prog 80 #[pt h, .int .i64 x] w fun e w' => e = .returned (.bool (anyP (fun p => (K.av p).isSome) H x)) ∧ Below w.heap.size w w' := by
  have Y := has_aside q x hx
  clear q
  go_enter Tryz.func80, Tryz.ntmps80
  go_wp2_with (go_at_call 134; refine Y.mono ?_; rintro e w1 ⟨rfl, B1⟩)
  go_ret
  exact ⟨rfl, B1⟩
theorem row_item {w : World} {base n : Nat} {e : TypeId} {v : Value} {xs : List Value} (h : w.ownsRow base e 1 v n xs) : ∃ ga cap, v = .slice ga n cap ∧ ∀ j, j < n → ∃ b, ga = some ⟨b, 0, none⟩ ∧ b < w.heap.size ∧ w.cell? ⟨b, j, none⟩ = xs[j]? := by
  rcases h.2 with ⟨e0, h0⟩ | ⟨b, cap, cur, rfl, hb, hg, X⟩
  · exact ⟨none, 0, by rw [e0, h0], fun j hj => by omega⟩
  · refine ⟨_, _, rfl, fun j hj => ⟨b, rfl, lt_of hg, ?_⟩⟩
    have := h.cellAt j (by omega)
    simpa using this
end
end Go.Proofs.YtbdoekffadmejaaGreatDoor

/- Package heap: is there a closure in a list that has a pointer to what was set aside. -/
namespace Go.Proofs.YtbdoekffadmejaaGreatDoor
open Go.RowKit
set_option linter.unusedVariables false
set_option linter.unusedSimpArgs false
set_option maxRecDepth 100000

section
variable {w w' : World} {γ γ' : Nat → Tg} {h : Nat} {k : Value} {A : Ad} {H : Hs} {B : Wa} {K : Wk}
/-- Has a closure a pointer to what was set aside. -/
abbrev asd (H : Hs) (K : Wk) (x : Int) : Bool := anyP (fun p => (K.av p).isSome) H x
set_option maxHeartbeats 1000000 in
theorem index_aside (q : Wm w γ h A H B K) {v : Value} {l : List Int} (r : w.ownsRow 0 3 1 v l.length (ints l)) (hl : ∀ x ∈ l, 0 ≤ x ∧ x ≤ 900000) (hn : l.length ≤ 9000000) :
    Calls Tryz.prog 133 #[v, .func (.func 80) #[pt h] #[]] w fun e w' => ∃ z : Int, e = .returned (.int .i64 z) ∧ decide (z ≥ 0) = l.any (asd H K) ∧ Below w.heap.size w w' := by
  obtain ⟨ga, cap, rfl, it⟩ := row_item r
  have CA := fun (W : World) (b : Below w.heap.size w W) (x : Int) (hx : 0 ≤ x ∧ x ≤ 900000) => aside80 (q.later b) x hx
  have HI : Hid (∀ (W : World), Below w.heap.size w W → ∀ j, (hj : j < l.length) → ∃ b, ga = some ⟨b, 0, none⟩ ∧ W.cell? ⟨b, j, none⟩ = some (.int .i64 l[j])) := ⟨fun W b j hj => by
    obtain ⟨c, e1, e2, e3⟩ := it j hj
    exact ⟨c, e1, (b.cell (p := ⟨c, j, none⟩) e2).trans (e3.trans (by unfold ints; rw [List.getElem?_map, List.getElem?_eq_getElem hj]; rfl))⟩⟩
  have HL := Hid.mk hl
  clear q r it hl
  obtain ⟨n, hm⟩ : ∃ n, l.length = n := ⟨_, rfl⟩
  have HM := Hid.mk hm
  rw [hm] at hn ⊢
  clear hm
  go_enter Tryz.func133, Tryz.ntmps133
  go_wp2
  go_loopw [8] (fun i wr => ∃ k : Nat, i = .int .i64 k ∧ k ≤ n ∧ Hid (∀ j, (hj : j < l.length) → j < k → asd H K l[j] = false) ∧ Hid (Below w.heap.size w wr)) (fun i _ => n - (intOf i).toNat)
  case atStart => exact ⟨0, rfl, Nat.zero_le _, ⟨fun j _ hj => absurd hj (Nat.not_lt_zero _)⟩, ⟨Below.refl _ _⟩⟩
  case round =>
    obtain ⟨k, rfl, hk, HF, HB⟩ := hrel
    by_cases hlt : k < n
    · have hlt' : (k : Int) < n := by omega
      have hkl : k < l.length := by rw [HM.out]; exact hlt
      obtain ⟨b, rfl, ck⟩ := HI.out _ HB.out k hkl
      have AK := CA _ HB.out _ (HL.out _ (List.getElem_mem hkl))
      have HE : Hid (∀ j, (hj : j < l.length) → j = k → asd H K l[j] = asd H K l[k]) := ⟨fun j hj e => by subst e; rfl⟩
      have HA : Hid (asd H K l[k] = true → l.any (asd H K) = true) := ⟨fun e => List.any_eq_true.2 ⟨l[k], List.getElem_mem hkl, e⟩⟩
      unfold asd at *
      generalize l[k] = y at ck AK HE HA
      cases hz : anyP (fun p => (K.av p).isSome) H y with
      | true =>
        rw [hz] at AK
        go_wp2_with (go_at_call 80; refine AK.mono ?_; rintro e w2 ⟨rfl, B2⟩; have HB2 := Hid.mk (HB.out.trans (B2.mono HB.out.size)); clear B2)
        go_ret
        exact ⟨k, rfl, by rw [HA.out hz]; simp, HB2.out⟩
      | false =>
        rw [hz] at AK
        go_wp2_with (go_at_call 80; refine AK.mono ?_; rintro e w2 ⟨rfl, B2⟩; have HB2 := Hid.mk (HB.out.trans (B2.mono HB.out.size)); clear B2)
        go_roundw
        case rel => exact ⟨k + 1, by go_num, by omega, ⟨fun j hj1 hj => (Nat.lt_succ_iff_lt_or_eq.1 hj).elim (HF.out j hj1) (fun e => (HE.out j hj1 e).trans hz)⟩, HB2⟩
        case measure => simp [intOf]; omega
    · obtain rfl : k = n := by omega
      have e : Hid (l.any (asd H K) = false) := ⟨List.any_eq_false.2 (fun y hy => by
        obtain ⟨j, hj, rfl⟩ := List.getElem_of_mem hy
        rw [HF.out j hj (by have := HM.out; omega)]; simp)⟩
      go_wp2
      go_ret
      exact ⟨-1, rfl, by rw [e.out]; decide, HB.out⟩
theorem contains_aside (q : Wm w γ h A H B K) {v : Value} {l : List Int} (r : w.ownsRow 0 3 1 v l.length (ints l)) (hl : ∀ x ∈ l, 0 ≤ x ∧ x ≤ 900000) (hn : l.length ≤ 9000000) :
    Calls Tryz.prog 79 #[v, .func (.func 80) #[pt h] #[]] w fun e w' => e = .returned (.bool (l.any (asd H K))) ∧ Below w.heap.size w w' := by
  have I := index_aside q r hl hn
  generalize l.any (asd H K) = t at *
  clear q r hl
  go_enter Tryz.func79, Tryz.ntmps79
  go_wp2_with (go_at_call 133; refine I.mono ?_; rintro e w1 ⟨z, rfl, hz, B1⟩)
  go_ret
  exact ⟨by first | rw [hz] | (rw [← hz]; rfl), B1⟩
end
end Go.Proofs.YtbdoekffadmejaaGreatDoor

/- Package heap: rows of numbers one behind the other (slices.Clone, Grow, Concat). -/
namespace Go.Proofs.YtbdoekffadmejaaGreatDoor
open Go.RowKit
set_option linter.unusedVariables false
set_option linter.unusedSimpArgs false
set_option maxRecDepth 100000

theorem grow_own (n : Nat) (hn : n ≤ 1000000) (w : World) : Calls Tryz.prog 171 #[.slice none 0 0, .int .i64 n] w fun e w' => ∃ v, e = .returned v ∧ w'.ownsRow w.heap.size 3 1 v 0 [] ∧ Below w.heap.size w w' := by
  by_cases h0 : n = 0
  · subst h0
    refine (Any8.slices_Grow_room Tryz.growI none 0 0 0 w (by omega) (by omega) (by omega) (by omega)).mono ?_
    rintro e w' ⟨rfl, hw⟩
    rw [hw]
    exact ⟨_, rfl, World.ownsRow_nil _ _ _ _, Below.refl _ _⟩
  · obtain ⟨i0, hi, hz0, hz1, hz2⟩ := info_parts info3
    refine (Any8.slices_Grow_grow Tryz.growI i0 (.int .i64 0) hi hz0 (by omega) none 0 0 n [] w (by omega) (by omega) (by rw [hz2]; omega) (by omega) (by simp) (fun _ => rfl) (fun a e => by cases e)).mono ?_
    rintro e w' ⟨rfl, rfl⟩
    refine ⟨_, rfl, ⟨rfl, .inr ⟨_, _, _, rfl, Nat.le_refl _, heap_alloc_new w.drew _, Nat.zero_le _, ?_, ?_, rfl⟩⟩, (below_drew1 w).alloc (Nat.le_refl _) _⟩
    · rw [Nat.zero_add]; exact grownCap_le_maxLen _ _ _ _ (by unfold maxLen; omega)
    · have g := grownCap_ge w (0 + n) 0 (Tryz.growI_ren.t 25)
      have e : ∀ c : Nat, (Builtin.zeroCells (Value.int .i64 0).cells c).size = c := fun c => by simp [Builtin.zeroCells, Value.cells]
      simp only [Array.size_append, e, Nat.mul_one]
      show 0 + _ + _ = _
      omega
/-- A list of numbers in a slice, nil or not. -/
def SlV (w : World) (v : Value) (l : List Int) : Prop := (v = .slice none 0 0 ∧ l = []) ∨ ∃ p c, v = .slice (some ⟨p, 0, none⟩) l.length c ∧ p < w.heap.size ∧ ∀ j (hj : j < l.length), w.cell? ⟨p, j, none⟩ = some (.int .i64 l[j])
theorem SlV.of {w : World} {base : Nat} {v : Value} {l : List Int} (r : w.ownsRow base 3 1 v l.length (ints l)) : SlV w v l := by
  rcases r.2 with ⟨e0, h0⟩ | ⟨b, cap, cur, rfl, hb, hg, X⟩
  · exact .inl ⟨e0, List.length_eq_zero_iff.1 h0⟩
  · refine .inr ⟨b, cap, rfl, lt_of hg, fun j hj => ?_⟩
    have := r.cellAt j (by omega)
    rw [show (ints l)[j]? = some (.int .i64 l[j]) by unfold ints; rw [List.getElem?_map, List.getElem?_eq_getElem hj]; rfl] at this
    simpa using this
theorem SlV.later {w w' : World} {v : Value} {l : List Int} (s : SlV w v l) (b : Below w.heap.size w w') : SlV w' v l := by
  rcases s with s | ⟨p, c, e, hp, hc⟩
  · exact .inl s
  · exact .inr ⟨p, c, e, Nat.lt_of_lt_of_le hp b.size, fun j hj => (b.cell (p := ⟨p, j, none⟩) hp).trans (hc j hj)⟩
theorem clone_any {w : World} {v : Value} {l : List Int} (s : SlV w v l) (hl : l.length ≤ 1000000) : Calls Tryz.prog 131 #[v] w fun e w' => ∃ v', e = .returned v' ∧ w'.ownsRow w.heap.size 3 1 v' l.length (ints l) ∧ Below w.heap.size w w' := by
  rcases s with ⟨rfl, rfl⟩ | ⟨p, c, rfl, hp, hc⟩
  · refine (Go.Proofs.Any.slices_Clone_int_nil Tryz.cloneI 0 0 w).mono ?_
    rintro e w' ⟨rfl, hw⟩
    rw [hw]
    exact ⟨_, rfl, World.ownsRow_nil _ _ _ _, Below.refl _ _⟩
  · refine (Go.Proofs.Any.slices_Clone_int Tryz.cloneI p 0 l.length c l w (Nat.le_refl _) (by omega) (fun j hj => by rw [Nat.zero_add, hc j hj, List.getD_eq_getElem?_getD, List.getElem?_eq_getElem hj]; rfl)).mono ?_
    rintro e w' ⟨v', rfl, r, _, B⟩
    rw [List.take_of_length_le (Nat.le_refl _)] at r
    exact ⟨v', rfl, r, B⟩
/-- Lists one behind the other. -/
def cat (ls : Nat → List Int) (j : Nat) : List Int := (List.range j).flatMap ls
theorem cat_succ (ls : Nat → List Int) (j : Nat) : cat ls (j + 1) = cat ls j ++ ls j := by
  unfold cat; rw [List.range_succ, List.flatMap_append]; simp
theorem cat_le (ls : Nat → List Int) {j m : Nat} (h : j ≤ m) : (cat ls j).length ≤ (cat ls m).length := by
  induction h with
  | refl => exact Nat.le_refl _
  | step _ ih => rw [cat_succ, List.length_append]; omega
theorem grown_bel {w w1 w2 : World} {e : TypeId} {v : Value} {n : Nat} {xs : List Value} (B : Below w.heap.size w w1) (r : w1.ownsRow w.heap.size e 1 v n xs) (G : w1.grownBy w2 v.ownBlock) : Below w.heap.size w w2 :=
  ⟨G.os.trans B.os, G.tape.trans B.tape, G.output.trans B.output, Nat.le_trans B.size G.size, fun k hk => (G.block k (Nat.lt_of_lt_of_le hk B.size) (fun e => by have := (r.lt k e.symm).1; omega)).trans (B.block k hk)⟩
set_option maxHeartbeats 1000000 in
theorem concat_any {w : World} {vb m : Nat} {vs : Nat → Value} {ls : Nat → List Int} (hvb : vb < w.heap.size) (hc : ∀ i, i < m → w.cell? ⟨vb, i, none⟩ = some (vs i)) (hs : ∀ i, i < m → SlV w (vs i) (ls i)) (hm : m ≤ 1000) (hl : (cat ls m).length ≤ 1000000) :
    Calls Tryz.prog 132 #[.slice (some ⟨vb, 0, none⟩) m m] w fun e w' => ∃ v, e = .returned v ∧ w'.ownsRow w.heap.size 3 1 v (cat ls m).length (ints (cat ls m)) ∧ Below w.heap.size w w' := by
  obtain ⟨i0, hi, hz0, hz1, hz2⟩ := info_parts info3
  have HI := Hid.mk (And.intro hi (And.intro hz0 (And.intro hz1 hz2)))
  have HC : Hid (∀ (W : World), Below w.heap.size w W → ∀ i, i < m → W.cell? ⟨vb, i, none⟩ = some (vs i)) := ⟨fun W b i h => (b.cell (p := ⟨vb, i, none⟩) hvb).trans (hc i h)⟩
  have HS : Hid (∀ (W : World), Below w.heap.size w W → ∀ i, i < m → SlV W (vs i) (ls i)) := ⟨fun W b i h => (hs i h).later b⟩
  have HL : Hid (∀ j, j ≤ m → (cat ls j).length ≤ 1000000) := ⟨fun j h => Nat.le_trans (cat_le ls h) hl⟩
  clear hi hz0 hz1 hz2 hc hs
  go_enter Tryz.func132, Tryz.ntmps132
  go_wp2
  go_loopw [3, 11] (fun s i wr => ∃ j : Nat, s = .int .i64 ((cat ls j).length : Nat) ∧ i = .int .i64 j ∧ j ≤ m ∧ w = wr) (fun _ i _ => m - (intOf i).toNat)
  case atStart => exact ⟨0, rfl, rfl, Nat.zero_le _, rfl⟩
  case round =>
    obtain ⟨j, rfl, rfl, hj, rfl⟩ := hrel
    by_cases hlt : j < m
    · have hlt' : (j : Int) < m := by omega
      have ck := HC.out _ (Below.refl _ _) j hlt
      have b1 := HL.out j (by omega)
      have b2 := HL.out (j + 1) hlt
      have e2 : (cat ls (j + 1)).length = (cat ls j).length + (ls j).length := by rw [cat_succ, List.length_append]
      rw [e2] at b2
      have HE := Hid.mk e2
      clear e2
      generalize (cat ls j).length = t at *
      rcases HS.out _ (Below.refl _ _) j hlt with ⟨e1, e3⟩ | ⟨p, c, e1, hp, hpc⟩
      · rw [e1] at ck
        rw [e3] at b2
        have e4 : Hid ((cat ls (j + 1)).length = t) := ⟨by rw [HE.out, e3]; rfl⟩
        clear HE e3 b2
        have e5 : IntKind.i64.wrap ((t : Int) + 0) = t := by rw [IntKind.wrap_i64]; omega
        go_wp2
        go_roundw
        case rel => exact ⟨j + 1, by rw [e4.out], by go_num, by omega, by first | rfl | trivial⟩
        case measure => show m - ((j : Int) + 1).toNat < m - ((j : Int)).toNat; omega
      · clear hpc
        rw [e1] at ck
        generalize (ls j).length = n2 at *
        have e5 : IntKind.i64.wrap ((t : Int) + n2) = t + n2 := by rw [IntKind.wrap_i64]; omega
        go_wp2
        go_roundw
        case rel => exact ⟨j + 1, by rw [HE.out]; push_cast; rfl, by go_num, by omega, by first | rfl | trivial⟩
        case measure => show m - ((j : Int) + 1).toNat < m - ((j : Int)).toNat; omega
    · obtain rfl : m = j := by omega
      have GO := grow_own (cat ls m).length hl w
      go_wp2_with (go_at_call 171; refine GO.mono ?_; rintro e w1 ⟨v, rfl, R1, B1⟩; obtain ⟨ga, k, c, rfl⟩ := row_sl R1; have HR1 := Hid.mk R1; have HB1 := Hid.mk B1; clear R1 B1)
      go_loopw [6, 27] (fun v i wq => ∃ j : Nat, i = .int .i64 j ∧ j ≤ m ∧ Hid (wq.ownsRow w.heap.size 3 1 v (cat ls j).length (ints (cat ls j))) ∧ Hid (Below w.heap.size w wq)) (fun _ i _ => m - (intOf i).toNat)
      case atStart => exact ⟨0, rfl, Nat.zero_le _, HR1, HB1⟩
      case round =>
        obtain ⟨j, rfl, hj, HR, HB⟩ := hrel
        by_cases hlt : j < m
        · have hlt' : (j : Int) < m := by omega
          have ck := HC.out _ HB.out j hlt
          have b1 := HL.out j (by omega)
          have b2 := HL.out (j + 1) hlt
          have e2 : (cat ls (j + 1)).length = (cat ls j).length + (ls j).length := by rw [cat_succ, List.length_append]
          rw [e2] at b2
          have HE := Hid.mk e2
          obtain ⟨ga1, k1, c1, rfl⟩ := row_sl HR.out
          have HS1 := HS.out _ HB.out j hlt
          generalize vs j = u at ck HS1
          rcases HS1 with ⟨e1, e3⟩ | ⟨p, c, e1, hp, hpc⟩
          · have He := Hid.mk e1
            clear e1
            go_wp2_with (at_builtin; refine wpList_append_own_none rfl _ _ 31 rfl w.heap.size 3 i0 1 Tryz.underlying31 HI.out.1 _ _ _ rfl HR.out He.out ?_)
            go_roundw
            case rel => exact ⟨j + 1, by go_num, by omega, ⟨by rw [cat_succ, e3, List.append_nil]; exact HR.out⟩, HB⟩
            case measure => show m - ((j : Int) + 1).toNat < m - ((j : Int)).toNat; omega
          · have He := Hid.mk e1
            clear e1
            go_wp2_with (at_builtin; refine wpList_append_own _ rfl _ _ 31 rfl w.heap.size 3 i0 _ 1 8 Tryz.underlying31 HI.out.1 HI.out.2.1 HI.out.2.2.1 HI.out.2.2.2 rfl (by decide) _ _ _ rfl HR.out ⟨p, 0, none⟩ (ls j).length c (ints (ls j)) He.out (by simp [ints]) (fun i u hu => by
              unfold ints at hu
              rw [List.getElem?_map] at hu
              obtain ⟨y, hy, rfl⟩ := Option.map_eq_some_iff.1 hu
              obtain ⟨hi, rfl⟩ := List.getElem?_eq_some_iff.1 hy
              have e : (⟨p, 0, none⟩ : Addr).add i = ⟨p, i, none⟩ := by unfold Addr.add; split <;> simp_all
              rw [e]; exact hpc i hi) (fun u hu => by unfold ints at hu; obtain ⟨y, _, rfl⟩ := List.mem_map.1 hu; rfl) (by unfold maxLen; omega) (by omega) (by have := HB.out.size; omega) ?_; intro v2 w2 ho hg hnil)
            go_roundw
            case rel => exact ⟨j + 1, by go_num, by omega, ⟨by rw [HE.out, cat_succ]; unfold ints at *; rw [List.map_append]; exact ho⟩, ⟨grown_bel HB.out HR.out hg⟩⟩
            case measure => show m - ((j : Int) + 1).toNat < m - ((j : Int)).toNat; omega
        · obtain rfl : m = j := by omega
          go_wp2
          go_ret
          exact ⟨_, rfl, HR.out, HB.out⟩
end Go.Proofs.YtbdoekffadmejaaGreatDoor

/- Package heap: what may have changed. -/
namespace Go.Proofs.YtbdoekffadmejaaGreatDoor
open Go.RowKit
set_option linter.unusedVariables false
set_option linter.unusedSimpArgs false
set_option maxRecDepth 100000

def v3 (a b c : Value) (i : Nat) : Value := if i = 0 then a else if i = 1 then b else c
def l3 (a b c : List Int) (i : Nat) : List Int := if i = 0 then a else if i = 1 then b else c
theorem l3_cat (a b c : List Int) : cat (l3 a b c) 3 = a ++ b ++ c := by simp [cat, List.range_succ, l3]
theorem v3_cell {w : World} (a b c : Value) (i : Nat) (hi : i < 3) : (w.alloc (.cells #[a, b, c] 31)).cell? ⟨w.heap.size, i, none⟩ = some (v3 a b c i) := by
  rw [Joins.cell_of_block (heap_alloc_new w _)]
  match i, hi with
  | 0, _ => rfl
  | 1, _ => rfl
  | 2, _ => rfl
theorem v3_sl {w : World} {a b c : Value} {x y z : List Int} (h1 : SlV w a x) (h2 : SlV w b y) (h3 : SlV w c z) (i : Nat) (hi : i < 3) : SlV w (v3 a b c i) (l3 x y z i) := by
  match i, hi with
  | 0, _ => exact h1
  | 1, _ => exact h2
  | 2, _ => exact h3
section
variable {w w' : World} {γ γ' : Nat → Tg} {h : Nat} {A : Ad} {H : Hs} {B : Wa} {K : Wk}
/-- What may have changed, of the generations below j. -/
def chL (H : Hs) (K : Wk) : Nat → List Int
  | 0 => K.fresh
  | j + 1 => chL H K j ++ Rm.allS H.c.g H.L j ++ Rm.allS H.c.g K.late j
theorem chL_le (H : Hs) (K : Wk) {j m : Nat} (h : j ≤ m) : (chL H K j).length ≤ (chL H K m).length := by
  induction h with
  | refl => exact Nat.le_refl _
  | step _ ih => simp only [chL, List.length_append]; omega
set_option maxHeartbeats 2000000 in
theorem changed_any (q : Wm w γ h A H B K) (hl : (chL H K H.c.g).length ≤ 1000000) :
    Calls Tryz.prog 78 #[pt h] w fun e w' => ∃ v, e = .returned v ∧ w'.ownsRow w.heap.size 3 1 v (chL H K H.c.g).length (ints (chL H K H.c.g)) ∧ Below w.heap.size w w' := by
  have HSS : Hid (∀ (W : World), Below w.heap.size w W → (fun wx => wx.cell? ⟨h, 9, none⟩ = some (pt A.l) ∧ wx.cell? ⟨h, 10, none⟩ = some (pt B.kb) ∧ wx.cell? ⟨B.kb, 4, none⟩ = some (pt B.tl)) W) := ⟨fun W b => ⟨(q.later b).hm.cl, (q.later b).hm.ck, hd4 (q.later b).km.box 4⟩⟩
  have LA := fun (W : World) (b : Below w.heap.size w W) (j : Nat) => all_li (q.later b).km.late j
  have LB := fun (W : World) (b : Below w.heap.size w W) (j : Nat) => all_li (q.later b).hm.li j
  have HL : Hid (∀ j, j < H.c.g → (chL H K j ++ Rm.allS H.c.g H.L j ++ Rm.allS H.c.g K.late j).length ≤ 1000000) := ⟨fun j hj => Nat.le_trans (chL_le H K (j := j + 1) hj) hl⟩
  have C7 := fun (W : World) (b : Below w.heap.size w W) => (q.later b).hm.co
  have k10 := q.hm.ck
  have k2 : w.cell? ⟨B.kb, 2, none⟩ = some B.fv := hd4 q.km.box 2
  have og := q.hm.ok.g
  obtain ⟨ob, cap, e1, _, _⟩ := row_form q.hm.row.out (by omega)
  rw [e1] at C7
  have CL := clone_any (SlV.of q.km.fr) (Nat.le_trans (chL_le H K (Nat.zero_le _)) hl)
  obtain ⟨ga, kk, cc, e0⟩ := row_sl q.km.fr
  rw [e0] at CL k2
  have HMM : Hid (H.c.g = H.c.g) := ⟨rfl⟩
  obtain ⟨m, hm⟩ : ∃ m, H.c.g = m := ⟨_, rfl⟩
  simp only [hm] at C7 LA LB HL og ⊢
  have HM := Hid.mk hm
  clear q hl e1 hm HMM e0
  go_enter Tryz.func78, Tryz.ntmps78
  go_wp2_with (go_at_call 131; refine CL.mono ?_; rintro e w1 ⟨v, rfl, R1, B1⟩; obtain ⟨ga0, k0, c0, rfl⟩ := row_sl R1; have HR1 := Hid.mk R1; have HB1 := Hid.mk B1; have c7 := C7 _ B1; clear R1 B1)
  go_loopw [3, 18] (fun v i wr => ∃ j : Nat, i = .int .i64 j ∧ j ≤ m ∧ Hid (wr.ownsRow w.heap.size 3 1 v (chL H K j).length (ints (chL H K j))) ∧ Hid (Below w.heap.size w wr)) (fun _ i _ => m - (intOf i).toNat)
  case atStart => exact ⟨0, rfl, Nat.zero_le _, HR1, HB1⟩
  case round =>
    obtain ⟨j, rfl, hj, HR, HB⟩ := hrel
    by_cases hlt : j < m
    · have hlt' : (j : Int) < m := by omega
      obtain ⟨ga0, k0, c0, rfl⟩ := row_sl HR.out
      have HD : Hid (Below wr.heap.size wr wr.drew) := ⟨below_drew1 wr⟩
      have HB0 : Hid (Below w.heap.size w wr.drew) := ⟨HB.out.trans (HD.out.mono HB.out.size)⟩
      have A1 := LB _ HB0.out j
      go_wp2
      refine wp_region_held_drew (S := (fun wx => wx.cell? ⟨h, 9, none⟩ = some (pt A.l) ∧ wx.cell? ⟨h, 10, none⟩ = some (pt B.kb) ∧ wx.cell? ⟨B.kb, 4, none⟩ = some (pt B.tl))) (by kernel_rfl) (HSS.out _ HB0.out) (fun hHeld => ?_)
      refine wpAnyH_take (i := 0) (v := ?_) rfl (by kernel_rfl) (by kernel_rfl) (by kernel_rfl) (fun _ _ _ h => h) (Or.inl ⟨by rfl, ?_⟩) (by assumption) ?_
      rotate_left
      · intro w' hSw
        try dsimp only at hSw
        go_simp
        try with_reducible rfl
      try simp only [Act.put, List.getElem_toArray, List.getElem_cons_zero, List.getElem_cons_succ, List.setIfInBounds_toArray, List.set_cons_zero, List.set_cons_succ]
      refine wpAnyH_take (i := 1) (v := ?_) rfl (by kernel_rfl) (by kernel_rfl) (by kernel_rfl) (fun _ _ _ h => h) (Or.inl ⟨by rfl, ?_⟩) (by assumption) ?_
      rotate_left
      · intro w' hSw
        try dsimp only at hSw
        go_simp
        try with_reducible rfl
      try simp only [Act.put, List.getElem_toArray, List.getElem_cons_zero, List.getElem_cons_succ, List.setIfInBounds_toArray, List.set_cons_zero, List.set_cons_succ]
      refine wpAnyH_take (i := 2) (v := ?_) rfl (by kernel_rfl) (by kernel_rfl) (by kernel_rfl) (fun _ _ _ h => h) (Or.inl ⟨by rfl, ?_⟩) (by assumption) ?_
      rotate_left
      · intro w' hSw
        try dsimp only at hSw
        go_simp
        try with_reducible rfl
      try simp only [Act.put, List.getElem_toArray, List.getElem_cons_zero, List.getElem_cons_succ, List.setIfInBounds_toArray, List.set_cons_zero, List.set_cons_succ]
      refine wpAnyH_take (i := 3) (v := ?_) rfl (by kernel_rfl) (by kernel_rfl) (by kernel_rfl) (fun _ _ _ h => h) (Or.inl ⟨by rfl, ?_⟩) (by assumption) ?_
      rotate_left
      · intro w' hSw
        try dsimp only at hSw
        go_simp
        try with_reducible rfl
      try simp only [Act.put, List.getElem_toArray, List.getElem_cons_zero, List.getElem_cons_succ, List.setIfInBounds_toArray, List.set_cons_zero, List.set_cons_succ]
      refine wpAnyH_take (i := 4) (v := ?_) rfl (by kernel_rfl) (by kernel_rfl) (by kernel_rfl) (fun _ _ _ h => h) (Or.inl ⟨by rfl, ?_⟩) (by assumption) ?_
      rotate_left
      · intro w' hSw
        try dsimp only at hSw
        go_simp
        try with_reducible rfl
      try simp only [Act.put, List.getElem_toArray, List.getElem_cons_zero, List.getElem_cons_succ, List.setIfInBounds_toArray, List.set_cons_zero, List.set_cons_succ]
      refine wpAnyH_take (i := 5) (v := ?_) rfl (by kernel_rfl) (by kernel_rfl) (by kernel_rfl) (fun _ _ _ h => h) (Or.inl ⟨by rfl, ?_⟩) (by assumption) ?_
      rotate_left
      · intro w' hSw
        try dsimp only at hSw
        go_simp
        try with_reducible rfl
      try simp only [Act.put, List.getElem_toArray, List.getElem_cons_zero, List.getElem_cons_succ, List.setIfInBounds_toArray, List.set_cons_zero, List.set_cons_succ]
      refine wpAnyH_take (i := 7) (v := ?_) rfl (by kernel_rfl) (by kernel_rfl) (by kernel_rfl) (fun _ _ _ h => h) (Or.inl ⟨by rfl, ?_⟩) (by assumption) ?_
      rotate_left
      · intro w' hSw
        try dsimp only at hSw
        go_simp
        try with_reducible rfl
      try simp only [Act.put, List.getElem_toArray, List.getElem_cons_zero, List.getElem_cons_succ, List.setIfInBounds_toArray, List.set_cons_zero, List.set_cons_succ]
      refine wpAnyH_take (i := 8) (v := ?_) rfl (by kernel_rfl) (by kernel_rfl) (by kernel_rfl) (fun _ _ _ h => h) (Or.inl ⟨by rfl, ?_⟩) (by assumption) ?_
      rotate_left
      · intro w' hSw
        try dsimp only at hSw
        go_simp
        try with_reducible rfl
      try simp only [Act.put, List.getElem_toArray, List.getElem_cons_zero, List.getElem_cons_succ, List.setIfInBounds_toArray, List.set_cons_zero, List.set_cons_succ]
      refine wpAnyH_take (i := 9) (v := ?_) rfl (by kernel_rfl) (by kernel_rfl) (by kernel_rfl) (fun _ _ _ h => h) (Or.inl ⟨by rfl, ?_⟩) (by assumption) ?_
      rotate_left
      · intro w' hSw
        try dsimp only at hSw
        go_simp
        try with_reducible rfl
      try simp only [Act.put, List.getElem_toArray, List.getElem_cons_zero, List.getElem_cons_succ, List.setIfInBounds_toArray, List.set_cons_zero, List.set_cons_succ]
      refine wpAnyH_take (i := 10) (v := ?_) rfl (by kernel_rfl) (by kernel_rfl) (by kernel_rfl) (fun _ _ _ h => h) (Or.inl ⟨by rfl, ?_⟩) (by assumption) ?_
      rotate_left
      · intro w' hSw
        try dsimp only at hSw
        go_simp
        try with_reducible rfl
      try simp only [Act.put, List.getElem_toArray, List.getElem_cons_zero, List.getElem_cons_succ, List.setIfInBounds_toArray, List.set_cons_zero, List.set_cons_succ]
      refine wpAnyH_take (i := 11) (v := ?_) rfl (by kernel_rfl) (by kernel_rfl) (by kernel_rfl) (fun _ _ _ h => h) (Or.inl ⟨by rfl, ?_⟩) (by assumption) ?_
      rotate_left
      · intro w' hSw
        try dsimp only at hSw
        go_simp
        try with_reducible rfl
      try simp only [Act.put, List.getElem_toArray, List.getElem_cons_zero, List.getElem_cons_succ, List.setIfInBounds_toArray, List.set_cons_zero, List.set_cons_succ]
      refine wpAnyH_take (i := 12) (v := ?_) rfl (by kernel_rfl) (by kernel_rfl) (by kernel_rfl) (fun _ _ _ h => h) (Or.inl ⟨by rfl, ?_⟩) (by assumption) ?_
      rotate_left
      · intro w' hSw
        try dsimp only at hSw
        go_simp
        try with_reducible rfl
      try simp only [Act.put, List.getElem_toArray, List.getElem_cons_zero, List.getElem_cons_succ, List.setIfInBounds_toArray, List.set_cons_zero, List.set_cons_succ]
      refine wpAnyH_take (i := 13) (v := ?_) rfl (by kernel_rfl) (by kernel_rfl) (by kernel_rfl) (fun _ _ _ h => h) (Or.inl ⟨by rfl, ?_⟩) (by assumption) ?_
      rotate_left
      · intro w' hSw
        try dsimp only at hSw
        go_simp
        try with_reducible rfl
      try simp only [Act.put, List.getElem_toArray, List.getElem_cons_zero, List.getElem_cons_succ, List.setIfInBounds_toArray, List.set_cons_zero, List.set_cons_succ]
      refine wpAnyH_take (i := 14) (v := ?_) rfl (by kernel_rfl) (by kernel_rfl) (by kernel_rfl) (fun _ _ _ h => h) (Or.inl ⟨by rfl, ?_⟩) (by assumption) ?_
      rotate_left
      · intro w' hSw
        try dsimp only at hSw
        go_simp
        try with_reducible rfl
      try simp only [Act.put, List.getElem_toArray, List.getElem_cons_zero, List.getElem_cons_succ, List.setIfInBounds_toArray, List.set_cons_zero, List.set_cons_succ]
      refine wpAnyH_ready (rs := [6]) (by kernel_rfl) (by simp) ?_
      refine AllReadyH.cons rfl (fun K' hK => ?_) AllReadyH.nil
      go_simp
      (go_at_call 53; refine A1.mono ?_; rintro e w1 ⟨v1, rfl, R1, _, B1⟩; obtain ⟨ga1, k1, c1, rfl⟩ := row_sl R1; have HR1 := Hid.mk R1; have HB1 := Hid.mk (HB0.out.trans (B1.mono HB0.out.size)); have HB1' := Hid.mk B1; have A2 := LA _ HB1.out j; clear R1 B1 A1)
      try go_wp2_with fail
      refine hK.out _ _ (HSS.out _ HB1.out) (fun hHeld => ?_)
      clear hK K'
      try simp only [Act.put, List.getElem_toArray, List.getElem_cons_zero, List.getElem_cons_succ, List.setIfInBounds_toArray, List.set_cons_zero, List.set_cons_succ]
      refine wpAnyH_ready (rs := [15]) (by kernel_rfl) (by simp) ?_
      refine AllReadyH.cons rfl (fun K' hK => ?_) AllReadyH.nil
      go_simp
      (go_at_call 53; refine A2.mono ?_; rintro e w2 ⟨v2, rfl, R2, _, B2⟩; obtain ⟨ga2, k2, c2, rfl⟩ := row_sl R2; have HR2 := Hid.mk R2; have HB2 := Hid.mk (HB1.out.trans (B2.mono HB1.out.size)); have HB2' := Hid.mk B2; clear R2 B2 A2)
      try go_wp2_with fail
      refine hK.out _ _ (HSS.out _ HB2.out) (fun hHeld => ?_)
      clear hK K'
      try simp only [Act.put, List.getElem_toArray, List.getElem_cons_zero, List.getElem_cons_succ, List.setIfInBounds_toArray, List.set_cons_zero, List.set_cons_succ]
      refine wpAnyH_ready (rs := [16]) (by kernel_rfl) (by simp) ?_
      refine AllReadyH.cons rfl (fun K' hK => ?_) AllReadyH.nil
      go_simp
      refine hK.out _ _ (HSS.out _ (HB2.out.alloc HB2.out.size _)) (fun hHeld => ?_)
      clear hK K'
      try simp only [Act.put, List.getElem_toArray, List.getElem_cons_zero, List.getElem_cons_succ, List.setIfInBounds_toArray, List.set_cons_zero, List.set_cons_succ]
      have BA := (Below.refl _ w2).alloc (Nat.le_refl _) (.cells #[.slice ga0 k0 c0, .slice ga1 k1 c1, .slice ga2 k2 c2] 31)
      have CC := concat_any (w := w2.alloc (.cells #[.slice ga0 k0 c0, .slice ga1 k1 c1, .slice ga2 k2 c2] 31)) (vb := w2.heap.size) (m := 3) (vs := v3 (.slice ga0 k0 c0) (.slice ga1 k1 c1) (.slice ga2 k2 c2)) (ls := l3 (chL H K j) (Rm.allS m H.L j) (Rm.allS m K.late j)) (by simp)
        (fun i hi => v3_cell _ _ _ i hi)
        (fun i hi => v3_sl ((SlV.of HR.out).later (HD.out.trans ((HB1'.out.mono HD.out.size).trans ((HB2'.out.mono (Nat.le_trans HD.out.size HB1'.out.size)).trans (BA.mono (Nat.le_trans HD.out.size (Nat.le_trans HB1'.out.size HB2'.out.size))))))) ((SlV.of HR1.out).later (HB2'.out.trans (BA.mono HB2'.out.size))) ((SlV.of HR2.out).later BA) i hi)
        (by omega) (by rw [l3_cat]; exact HL.out j hlt)
      rw [l3_cat] at CC
      clear BA
      refine wpAnyH_ready (rs := [17]) (by kernel_rfl) (by simp) ?_
      refine AllReadyH.cons rfl (fun K' hK => ?_) AllReadyH.nil
      go_simp
      (go_at_call 132; refine CC.mono ?_; rintro e w4 ⟨v4, rfl, R4, B4⟩; obtain ⟨ga4, k4, c4, rfl⟩ := row_sl R4; have HR4 := Hid.mk R4; have HB4 := Hid.mk ((HB2.out.alloc HB2.out.size (.cells #[.slice ga0 k0 c0, .slice ga1 k1 c1, .slice ga2 k2 c2] 31)).trans (B4.mono (HB2.out.alloc HB2.out.size _).size)); clear R4 B4 CC)
      try go_wp2_with fail
      refine hK.out _ _ (HSS.out _ HB4.out) (fun hHeld => ?_)
      clear hK K'
      try simp only [Act.put, List.getElem_toArray, List.getElem_cons_zero, List.getElem_cons_succ, List.setIfInBounds_toArray, List.set_cons_zero, List.set_cons_succ]
      refine wpAnyH_take (i := 18) (v := ?_) rfl (by kernel_rfl) (by kernel_rfl) (by kernel_rfl) (fun _ _ _ h => h) (Or.inl ⟨by rfl, ?_⟩) (by assumption) ?_
      rotate_left
      · intro w' hSw
        try dsimp only at hSw
        go_simp
        try with_reducible rfl
      try simp only [Act.put, List.getElem_toArray, List.getElem_cons_zero, List.getElem_cons_succ, List.setIfInBounds_toArray, List.set_cons_zero, List.set_cons_succ]
      refine wpAnyH_done (by kernel_rfl) ?_ _
      go_wp2
      go_roundw
      case rel => exact ⟨j + 1, by go_num, by omega, ⟨ownsRow_base_a (by simp only [chL, HM.out]; exact HR4.out) (by have := HB2.out.size; simp; omega)⟩, HB4⟩
      case measure => show m - ((j : Int) + 1).toNat < m - ((j : Int)).toNat; omega
    · obtain rfl : m = j := by omega
      go_wp2
      go_ret
      exact ⟨_, rfl, HR.out, HB.out⟩
end
end Go.Proofs.YtbdoekffadmejaaGreatDoor

/- Package heap: a space is freed; all that were set aside. -/
namespace Go.Proofs.YtbdoekffadmejaaGreatDoor
open Go.RowKit
set_option linter.unusedVariables false
set_option linter.unusedSimpArgs false
set_option maxRecDepth 100000

abbrev tfr (σ : Nat) (t : Tg) : Prop := t = .sb σ ∨ t = .pr
theorem tfr_hTn {σ : Nat} {t : Tg} (h : tfr σ t) : hTn t := by
  rcases h with rfl | rfl <;> (rintro (e | ⟨n, e⟩) <;> cases e)
section
variable {w w' : World} {γ γ' : Nat → Tg} {h : Nat} {k : Value} {A : Ad} {H : Hs}
theorem free_hm (q : Hm w γ h k A H) {σ : Nat} {S : Bp.S0} (sp : SpM w γ A.p A.a σ S) (ap : ∀ g s, g < H.c.g → s < H.c.n g → A.σ g s ≠ σ) (FI : Bp.Fit S (H.c.b * 64)) (hl : S.l.length ≤ 1000) (hz : Bp.frees H.c.b H.f S.l 0 ≠ -1) :
    Calls Tryz.prog 82 #[pt σ] w fun e w' => e = .returned (.int .i64 0) ∧ Fr (tfr σ) w w' γ γ ∧ Hm w' γ h k A { H with f := Bp.frees H.c.b H.f S.l } := by
  obtain ⟨m, v, hS, s1, s2, s3⟩ := sp
  obtain ⟨pb, hP, p1, p2⟩ := q.pool
  obtain ⟨ab, hA, a1, a2⟩ := q.ar
  have ne : ∀ {x y : Nat}, γ x ≠ γ y → x ≠ y := fun e q => e (by rw [q])
  have AP : Bp.Ap σ m v A.p pb A.a ab := by
    refine ⟨?_, ne (by rw [p1, a1]; nofun), ne (by rw [p1, a2]; nofun), ne (by rw [p2, a1]; nofun), ne (by rw [p2, a2]; nofun)⟩
    rintro x (rfl | rfl | e)
    · exact ⟨ne (by rw [s1, p1]; nofun), ne (by rw [s1, p2]; nofun), ne (by rw [s1, a1]; nofun), ne (by rw [s1, a2]; nofun)⟩
    · exact ⟨ne (by rw [s2, p1]; nofun), ne (by rw [s2, p2]; nofun), ne (by rw [s2, a1]; nofun), ne (by rw [s2, a2]; nofun)⟩
    · have t := s3 x e
      exact ⟨ne (by rw [t, p1]; nofun), ne (by rw [t, p2]; nofun), ne (by rw [t, a1]; nofun), ne (by rw [t, a2]; nofun)⟩
  have SY : Bp.Sy 0 w σ A.p A.a m pb ab H.c.b (H.c.b * 64) v S H.f H.xs := ⟨hS, FI, hP, q.good, hA, q.len, AP, Nat.zero_le _, fun _ _ => Nat.zero_le _⟩
  refine (Bp.free_space SY hl).mono ?_
  rintro e w' ⟨rfl, m', _, Y, C⟩
  have F : Fr (tfr σ) w w' γ γ := Fr.chg C (by
    rintro x hx (rfl | rfl)
    · exact .inl s1
    · exact .inr p2)
  have nt : ∀ t, t ≠ .sb σ → t ≠ .pr → ¬ tfr σ t := by
    rintro t h1 h2 (e | e)
    · exact h1 e
    · exact h2 e
  refine ⟨rfl, F, {
    box := F.at_ q.box (by rw [q.tag]; exact nt _ nofun nofun)
    tag := q.tag
    gl := q.gl.fr F (nt _ nofun nofun)
    ok := q.ok
    pool := ⟨pb, Y.pool, p1, p2⟩
    good := Y.good
    zero := hz
    ar := ⟨ab, Y.arena, a1, a2⟩
    len := q.len
    word := q.word
    row := q.row.fr F (nt _ nofun nofun) (nt _ nofun nofun)
    sps := fun g s hg hs => (q.sps g s hg hs).fr F (nt _ (by simpa using ap g s hg hs) nofun) (nt _ nofun nofun) (nt _ nofun nofun)
    inj := q.inj
    fit := q.fit
    wh := q.wh.fr F (by rw [q.whT]; exact nt _ nofun nofun)
    whT := q.whT
    li := q.li.fr F (nt _ nofun nofun) (nt _ nofun nofun) (nt _ nofun nofun)
    dom := q.dom }⟩
end
/-- What is left behind spaces that are freed. -/
def frN (N : Nat) (f : Nat → Int) (l : List Bp.S0) : Nat → Int := l.foldl (fun f S => Bp.frees N f S.l) f
theorem frN_succ (N : Nat) (f : Nat → Int) (l : List Bp.S0) (j : Nat) (hj : j < l.length) : frN N f (l.take (j + 1)) = Bp.frees N (frN N f (l.take j)) (l.getD j Bp.S0.none).l := by
  unfold frN
  rw [List.take_succ_eq_append_getElem hj, List.foldl_append, List.getD_eq_getElem?_getD, List.getElem?_eq_getElem hj]
  rfl
/-- The lists behind a round of Finish over these closures. -/
def enS (H : Hs) (l : List Int) : Hs := l.foldl (fun H x => { H with L := enL H x }) H
theorem enS_succ (H : Hs) (l : List Int) (j : Nat) (hj : j < l.length) : enS H (l.take (j + 1)) = { enS H (l.take j) with L := enL (enS H (l.take j)) l[j] } := by
  unfold enS
  rw [List.take_succ_eq_append_getElem hj, List.foldl_append]
  rfl
end Go.Proofs.YtbdoekffadmejaaGreatDoor

/- Package heap: Finish. -/
namespace Go.Proofs.YtbdoekffadmejaaGreatDoor
open Go.RowKit
set_option linter.unusedVariables false
set_option linter.unusedSimpArgs false
set_option maxRecDepth 100000

theorem thb_hTn {t : Tg} (h : t = .hb) : hTn t := by cases h; rintro (e | ⟨n, e⟩) <;> cases e
theorem enS_c (H : Hs) (l : List Int) : (enS H l).c = H.c := by
  unfold enS
  induction l generalizing H with
  | nil => rfl
  | cons x l ih => rw [List.foldl_cons, ih]
section
variable {w : World} {γ : Nat → Tg} {h : Nat} {A : Ad} {H : Hs} {B : Wa} {K : Wk}
theorem Wm.own (q : Wm w γ h A H B K) {w1 : World} (b : Below w.heap.size w w1) : ∃ γ1, Wm w1 γ1 h A H B K ∧ Fr (fun _ => False) w w1 γ γ1 ∧ ∀ k, w.heap.size ≤ k → γ1 k = .x 0 := by
  have F0 : Fr (fun _ => False) w w1 γ (fun b => if w.heap.size ≤ b then .x 0 else γ b) := (Fr.later (fun _ => False) γ b).retag (fun b hb => if_neg (by omega))
  exact ⟨_, ⟨q.hm.fr F0 (fun _ e => e.elim), q.km.fr' F0 id id id id id id id (fun _ _ => ⟨id, id, id⟩), q.ap⟩, F0, fun k hk => if_pos hk⟩
set_option maxHeartbeats 2000000 in
theorem finish_yes (q : Wm w γ h A H B K) (hl : (chL H K H.c.g).length ≤ 1000000) (hr : ∀ x ∈ chL H K H.c.g, 0 ≤ x ∧ x ≤ 900000) (hA : (chL H K H.c.g).any (asd H K) = false)
    (hL : ∀ S ∈ K.old, S.l.length ≤ 1000) (hz : ∀ j, j ≤ K.old.length → frN H.c.b H.f (K.old.take j) 0 ≠ -1) (hn : K.old.length ≤ 1000) :
    Calls Tryz.prog 30 #[pt h] w fun e w' => e = .returned (.int .i64 0) ∧ ∃ γ', Fr hTn w w' γ γ' ∧ Hm w' γ' h (.pointer none) A (enS { H with f := frN H.c.b H.f K.old } (chL H K H.c.g)) := by
  have G := (sg_work q.hm).work
  have CH := changed_any q hl
  have HQ := Hid.mk q
  have HLL := Hid.mk hL
  have HZ := Hid.mk hz
  have HR := Hid.mk hr
  obtain ⟨l, hl0⟩ : ∃ l, chL H K H.c.g = l := ⟨_, rfl⟩
  rw [hl0] at CH hl hr hA HR ⊢
  have CO := fun (W : World) (γ' : Nat → Tg) (Q : Wm W γ' h A H B K) {v : Value} (r : W.ownsRow 0 3 1 v l.length (ints l)) => contains_aside Q r HR.out (by omega)
  rw [hA] at CO
  obtain ⟨n, hn0⟩ : ∃ n, K.old.length = n := ⟨_, rfl⟩
  have gl := q.km.len
  rw [hn0] at gl hn
  have HN := Hid.mk hn0
  have HG := Hid.mk gl
  obtain ⟨gv0, gc, eg, _⟩ := row_item q.km.row
  rw [gl] at eg
  have HEG := Hid.mk eg
  clear q hL hz hr hA hl0 hn0 gl eg
  go_enter Tryz.func30, Tryz.ntmps30
  go_wp2_with (first
    | (go_at_call 65; refine G.mono ?_; rintro e w1 ⟨rfl, hw⟩; rw [hw]; clear hw G)
    | (go_at_call 78; refine CH.mono ?_; rintro e w1 ⟨v, rfl, R1, B1⟩; obtain ⟨ga0, c0, rfl, _⟩ := row_item R1; obtain ⟨γ1, Q1, F1, t1⟩ := HQ.out.own B1; have T1 : Hid (∀ b, Value.ownBlock (.slice ga0 l.length c0) = some b → γ1 b = .x 0) := ⟨fun b e => t1 b (R1.lt b e).1⟩; have CO1 := CO w1 γ1 Q1 (ownsRow_base_a R1 (Nat.zero_le _)); have HR1 := Hid.mk (ownsRow_base_a (base' := 0) R1 (Nat.zero_le _)); have HF1 : Hid (Fr hTn w w1 γ γ1) := ⟨F1.mono (fun _ e => e.elim)⟩; have HQ1 := Hid.mk Q1; clear F1 Q1 R1 B1 CO CH t1)
    | (go_at_call 79; refine CO1.mono ?_; rintro e w2 ⟨rfl, B2⟩
       have HQ2 := Hid.mk (HQ1.out.later B2); have HF2 := Hid.mk (HF1.out.trans (Fr.later hTn γ1 B2)); have HR2 := Hid.mk (row_later HR1.out B2)
       have c10 := HQ2.out.hm.ck
       have ck0 : w2.cell? ⟨B.kb, 0, none⟩ = some B.gv := hd4 HQ2.out.km.box 0
       rw [HEG.out] at ck0
       clear B2 CO1))
  have HROW := Hid.mk HQ2.out.km.row
  have HGT := Hid.mk HQ2.out.km.rowT
  have HND := Hid.mk HQ2.out.km.nd
  have HFI := Hid.mk HQ2.out.km.fit
  have HAP := Hid.mk HQ2.out.ap
  rw [HEG.out] at HROW HGT
  have HM0 : Hid (Hm w2 γ1 h (pt B.kb) A { H with f := frN H.c.b H.f (K.old.take 0) }) := ⟨HQ2.out.hm⟩
  have HS0 : Hid (∀ i (hi : i < B.gs.length), 0 ≤ i → SpM w2 γ1 A.p A.a B.gs[i] (K.old.getD i Bp.S0.none)) := ⟨fun i hi _ => HQ2.out.km.sps i hi⟩
  clear ck0 c10 HQ HQ1 HF1 HR1
  go_loopw [30] (fun i wr => ∃ j : Nat, i = .int .i64 j ∧ j ≤ n ∧ Hid (Hm wr γ1 h (pt B.kb) A { H with f := frN H.c.b H.f (K.old.take j) }) ∧ Hid (∀ i (hi : i < B.gs.length), j ≤ i → SpM wr γ1 A.p A.a B.gs[i] (K.old.getD i Bp.S0.none)) ∧ Hid (Fr hTn w2 wr γ1 γ1) ∧ Hid (wr.ownsRow 0 100 1 (.slice gv0 n gc) B.gs.length (B.gs.map pt))) (fun i _ => n - (intOf i).toNat)
  case atStart => exact ⟨0, rfl, Nat.zero_le _, HM0, HS0, ⟨Fr.refl _ _ _⟩, HROW⟩
  case round =>
    obtain ⟨j, rfl, hj, HMr, HSr, HFr, HGr⟩ := hrel
    by_cases hlt : j < n
    · have hlt' : (j : Int) < n := by omega
      have hjg : j < B.gs.length := by rw [HG.out]; exact hlt
      have hjo : j < K.old.length := by rw [HN.out]; exact hlt
      obtain ⟨gv1, gc1, e1, it⟩ := row_item HGr.out
      obtain ⟨b, e2, hb, ck⟩ := it j hjg
      simp only [Value.slice.injEq] at e1
      obtain ⟨rfl, en, rfl⟩ := e1
      clear en
      subst e2
      rw [show (B.gs.map pt)[j]? = some (pt B.gs[j]) by rw [List.getElem?_map, List.getElem?_eq_getElem hjg]; rfl] at ck
      have FS := free_hm HMr.out (HSr.out j hjg (Nat.le_refl _)) (fun g s hg hs e => HAP.out g s hg hs (by rw [e]; exact List.getElem_mem hjg)) (HFI.out _ (by rw [List.getD_eq_getElem?_getD, List.getElem?_eq_getElem hjo]; exact List.getElem_mem hjo)) (HLL.out _ (by rw [List.getD_eq_getElem?_getD, List.getElem?_eq_getElem hjo]; exact List.getElem_mem hjo)) (by have := HZ.out (j + 1) hjo; rw [frN_succ _ _ _ _ hjo] at this; exact this)
      have HJ : Hid (∀ i (hi : i < B.gs.length), j + 1 ≤ i → B.gs[i] ≠ B.gs[j]) := ⟨fun i hi h e => List.pairwise_iff_getElem.1 HND.out j i hjg hi (by omega) e.symm⟩
      have HFN := Hid.mk (frN_succ H.c.b H.f K.old j hjo)
      generalize hσ : B.gs[j] = σ at ck FS HJ
      clear it
      go_wp2_with (go_at_call 82; refine FS.mono ?_; rintro e w4 ⟨rfl, F4, Q4⟩; have HF4 := Hid.mk F4; have HQ4 := Hid.mk Q4; clear F4 Q4 FS)
      go_roundw
      case rel =>
        refine ⟨j + 1, by go_num, by omega, ⟨by rw [HFN.out]; exact HQ4.out⟩, ⟨fun i hi h => ?_⟩, ⟨HFr.out.trans (HF4.out.mono (fun t e => tfr_hTn e))⟩, ⟨?_⟩⟩
        · have n1 := HJ.out i hi h
          exact (HSr.out i hi (by omega)).fr HF4.out (by rintro (e | e) <;> simp at e; exact n1 e) (by rintro (e | e) <;> cases e) (by rintro (e | e) <;> cases e)
        · refine Bp.ownsRow_same HGr.out (fun x e => HF4.out.block x (HGr.out.lt x e).2 ?_)
          rw [HGT.out x e]; rintro (e | e) <;> cases e
      case measure => show n - ((j : Int) + 1).toNat < n - ((j : Int)).toNat; omega
    · obtain rfl : n = j := by omega
      have HM1 : Hid (Hm wr γ1 h (pt B.kb) A { H with f := frN H.c.b H.f K.old }) := ⟨by have := HMr.out; rwa [List.take_of_length_le (by rw [HN.out]; exact Nat.le_refl _)] at this⟩
      have z10 := HM1.out.z 10
      have k10 := HM1.out.ck
      have HR3 : Hid (wr.ownsRow 0 3 1 (.slice ga0 l.length c0) l.length (ints l)) := ⟨Bp.ownsRow_same HR2.out (fun x e => HFr.out.block x (HR2.out.lt x e).2 (by rw [T1.out x e]; intro k; exact k (.inr ⟨0, rfl⟩)))⟩
      have F5 : Fr (fun t => t = .hb) wr (wr.setCell ⟨h, 10, none⟩ (.pointer none)) γ1 γ1 := Fr.one (grown_cell _ _ _ _) HM1.out.tag
      have HM2 := Hid.mk (HM1.out.setk F5 (box_k HM1.out.box _))
      have HF5 := Hid.mk (HF2.out.trans (HFr.out.trans (F5.mono (fun t e => thb_hTn e))))
      have HR4 : Hid ((wr.setCell ⟨h, 10, none⟩ (.pointer none)).ownsRow 0 3 1 (.slice ga0 l.length c0) l.length (ints l)) := ⟨Bp.ownsRow_same HR3.out (fun x e => F5.block x (HR3.out.lt x e).2 (by rw [T1.out x e]; nofun))⟩
      clear F5 HMr HSr HFr HGr
      go_wp2
      generalize wr.setCell ⟨h, 10, none⟩ (.pointer none) = W5 at *
      go_loopw [42] (fun i wq => ∃ (j : Nat) (γ' : Nat → Tg), i = .int .i64 j ∧ j ≤ l.length ∧ Hid (Hm wq γ' h (.pointer none) A (enS { H with f := frN H.c.b H.f K.old } (l.take j))) ∧ Hid (Fr (fun t => t = .lm false) W5 wq γ1 γ')) (fun i _ => l.length - (intOf i).toNat)
      case atStart => exact ⟨0, γ1, rfl, Nat.zero_le _, HM2, ⟨Fr.refl _ _ _⟩⟩
      case round =>
        obtain ⟨j, γ2, rfl, hj, HMr, HFr⟩ := hrel
        by_cases hlt : j < l.length
        · have hlt' : (j : Int) < l.length := by omega
          have HRr : Hid (wr.ownsRow 0 3 1 (.slice ga0 l.length c0) l.length (ints l)) := ⟨Bp.ownsRow_same HR4.out (fun x e => HFr.out.block x (HR4.out.lt x e).2 (by rw [T1.out x e]; nofun))⟩
          obtain ⟨ga1, gc1, e1, it⟩ := row_item HRr.out
          obtain ⟨b, e2, hb, ck⟩ := it j hlt
          simp only [Value.slice.injEq] at e1
          obtain ⟨rfl, en, rfl⟩ := e1
          clear en
          subst e2
          rw [show (ints l)[j]? = some (.int .i64 l[j]) by unfold ints; rw [List.getElem?_map, List.getElem?_eq_getElem hlt]; rfl] at ck
          have EN := enlist_any HMr.out l[j] (HR.out _ (List.getElem_mem hlt))
          have HES := Hid.mk (enS_succ { H with f := frN H.c.b H.f K.old } l j hlt)
          generalize l[j] = y at ck EN HES
          clear it
          go_wp2_with (go_at_call 83; refine EN.mono ?_; rintro e w6 ⟨rfl, γ3, F6, Q6⟩; have HF6 := Hid.mk (HFr.out.trans F6); have HQ6 := Hid.mk Q6; clear F6 Q6 EN)
          go_roundw
          case rel => exact ⟨j + 1, γ3, by go_num, by omega, ⟨by rw [HES.out]; exact HQ6.out⟩, HF6⟩
          case measure => show l.length - ((j : Int) + 1).toNat < l.length - ((j : Int)).toNat; omega
        · have ej : j = l.length := by omega
          have HM3 : Hid (Hm wr γ2 h (.pointer none) A (enS { H with f := frN H.c.b H.f K.old } l)) := ⟨by have := HMr.out; rwa [List.take_of_length_le (by omega)] at this⟩
          have nlt : ¬ (j : Int) < l.length := by omega
          go_wp2
          go_ret
          exact ⟨rfl, γ2, HF5.out.trans (HFr.out.mono (fun t e => tlm_hTn e)), HM3.out⟩
end
end Go.Proofs.YtbdoekffadmejaaGreatDoor

/- Package heap: the small collection of the law HeapNone: the plain values. -/
namespace Go.Proofs.YtbdoekffadmejaaGreatDoor
open Go.RowKit
set_option maxRecDepth 100000
def awC : Cf := ⟨2, 1, 9, 2, 0⟩
def aw0 : Hs := Hs.new awC
def aw1 : Hs := aw0.lays 10 0 1 0 [0] []
def aw2 : Hs := (begS aw1 1).1
def awK2 : Wk := (begS aw1 1).2
def aw3 : Hs := aw2.went 64 1 0
def awK3 : Wk := { awK2 with fresh := awK2.fresh ++ [aw2.layA 1 0 (szW aw2.xs 64)] }
def awF : Hs := enS { aw3 with f := frN aw3.c.b aw3.f awK3.old } (chL aw3 awK3 aw3.c.g)
def aw5 : Hs := awF.lays 2 0 0 1 [] [7]
def aw6 : Hs := aw5.sets 128 0 64
theorem aw_c : awC.Ok := ⟨by decide, by decide, by decide, by decide, by decide⟩
theorem aw_w0 : wrongE aw0 10 0 1 0 [0] 0 = 0 := by decide +kernel
theorem aw_e0 : aw0.layE 0 0 (1 + 1 + 0) = 0 := by decide +kernel
theorem aw_a0 : aw0.layA 0 0 (1 + 1 + 0) = 64 := by decide +kernel
theorem aw_s1 : (aw1.sp 0 0).l = [(64, 2)] := by decide +kernel
theorem aw_i2 : isC aw2 64 = false := by decide +kernel
theorem aw_v2 : awK2.av 64 = some (0, 0) := by decide +kernel
theorem aw_m2 : mvd aw2 awK2 64 = none := by decide +kernel
theorem aw_n2 : nxt aw2.c (0, 0) 0 = (1, 0) := by decide +kernel
theorem aw_s2 : (aw2.sp 1 0).l = [] := by decide +kernel
theorem aw_e2 : aw2.layE 1 0 (szW aw2.xs 64) = 0 := by decide +kernel
theorem aw_a2 : aw2.layA 1 0 (szW aw2.xs 64) = 128 := by decide +kernel
theorem aw_f2 : awK2.fresh = [] := by decide +kernel
theorem aw_ch : chL aw3 awK3 aw3.c.g = [128] := by decide +kernel
theorem aw_as : (chL aw3 awK3 aw3.c.g).any (asd aw3 awK3) = false := by decide +kernel
theorem aw_old : awK3.old.map (fun S => S.l) = [[(64, 2)]] := by decide +kernel
theorem aw_z : ∀ j, j ≤ 1 → frN aw3.c.b aw3.f (awK3.old.take j) 0 ≠ -1 := by decide +kernel
theorem aw_w4 : wrongE awF 2 0 0 1 [] 1 = 0 := by decide +kernel
theorem aw_s4 : (awF.sp 0 0).l = [] := by decide +kernel
theorem aw_e4 : awF.layE 0 0 (1 + 0 + 1) = 0 := by decide +kernel
theorem aw_a4 : awF.layA 0 0 (1 + 0 + 1) = 64 := by decide +kernel
theorem aw_p5 : putE aw5 128 0 64 = 0 := by decide +kernel
theorem aw_l6 : Rm.allS aw6.c.g aw6.L 1 = [128] := by decide +kernel
theorem aw_c6 : isC aw6 128 = true := by decide +kernel
theorem aw_x6 : ptrW aw6.xs (128 + 1 + 0) = 64 := by decide +kernel
theorem aw_h6 : Wo.unP (Bp.Ar.readW aw6.xs 128) = 1 := by decide +kernel
end Go.Proofs.YtbdoekffadmejaaGreatDoor

/- Package heap: the small collection of the law HeapNone. -/
namespace Go.Proofs.YtbdoekffadmejaaGreatDoor
open Go.RowKit
set_option linter.unusedVariables false
set_option linter.unusedSimpArgs false
set_option maxRecDepth 100000

section
variable {w : World} {γ : Nat → Tg} {h : Nat} {A : Ad} {B : Wa}
theorem aw_new (G : Gl w γ) : Calls Tryz.prog 34 #[.agg #[.int .i64 2, .int .i64 1, .int .i64 9, .int .i64 2, .int .i64 0]] w fun e w' => ∃ h A γ', e = .returned (.tuple #[pt h, .int .i64 0]) ∧ Hm w' γ' h (.pointer none) A aw0 ∧ A.wn = 0 ∧ Fr hTn w w' γ γ' := by
  have N : Calls Tryz.prog 34 #[.agg #[.int .i64 2, .int .i64 1, .int .i64 9, .int .i64 2, .int .i64 0]] w _ := new_yes G awC aw_c
  refine N.mono ?_
  rintro e w' ⟨h, A, γ', rfl, Q, e0, b, t⟩
  exact ⟨h, A, γ', rfl, Q, e0, (Fr.later hTn γ b).retag t⟩
theorem aw_one (kd : IntKind) (y : Int) (ty : TypeId) (w : World) (γ : Nat → Tg) : LsA (w.alloc (.cells #[.int kd y] ty)) (tagd γ w.heap.size (.x 0)) kd (.slice (some ⟨w.heap.size, 0, none⟩) 1 1) [y] :=
  ⟨_, 1, rfl, fun j hj => by
    have e : j = 0 := by simp at hj; exact hj
    subst e
    exact ⟨w.heap.size, 0, rfl, cell_new1 w _ ty, .inr ⟨0, tagd_same _ _ _⟩⟩⟩
theorem aw_nil (kd : IntKind) (w : World) (γ : Nat → Tg) : LsA w γ kd (.slice none 0 0) [] := ⟨none, 0, rfl, fun j hj => absurd hj (Nat.not_lt_zero _)⟩
theorem aw_lay1 (q : Hm w γ h (.pointer none) A aw0) (hw : A.wn = 0) : Calls Tryz.prog 20 #[pt h, .agg #[.int .i64 10, .int .i64 0, .int .i64 1, .int .i64 0], .slice (some ⟨w.heap.size, 0, none⟩) 1 1, .slice none 0 0] (w.alloc (.cells #[.int .i64 0] 3)) fun e w' =>
    e = .returned (.tuple #[.int .i64 64, .int .i64 0]) ∧ ∃ A' γ', Hm w' γ' h (.pointer none) A' aw1 ∧ A'.wn ≤ 10 ∧ Fr hTn w w' γ γ' := by
  have L := lay_yes (q.alloc (.cells #[.int .i64 0] 3) (.x 0)) 10 0 1 0 (aw_one .i64 0 3 w γ) (aw_nil .u64 _ _) (by intro y hy; simp at hy; subst hy; exact ⟨by decide, by decide⟩) (by decide) (by decide) aw_w0 (by decide +kernel) aw_e0 (by omega)
  rw [aw_a0] at L
  refine L.mono ?_
  rintro e w' ⟨rfl, γ', F, Q⟩
  exact ⟨rfl, A.more, γ', Q, by show A.wn + 1 ≤ 10; omega, (Fr.alloc hTn w γ _ _).trans F⟩
theorem aw_begin (q : Hm w γ h (.pointer none) A aw1) (hw : A.wn ≤ 10) : Calls Tryz.prog 28 #[pt h, .int .i64 0] w fun e w' => e = .returned (.int .i64 0) ∧ ∃ A' B' γ', Wm w' γ' h A' aw2 B' awK2 ∧ A'.wn ≤ 10 ∧ Fr hTn w w' γ γ' := by
  have c0 : ∀ g' s, g' ≤ 0 → s < aw1.c.n g' → g' = 0 ∧ s = 0 := by
    intro g' s h1 h2
    obtain rfl : g' = 0 := by omega
    have : aw1.c.n 0 = 1 := rfl
    omega
  have L : Calls Tryz.prog 28 #[pt h, .int .i64 0] w _ := begin_yes q 0 (by decide +kernel) (fun g' s h1 h2 => by obtain ⟨rfl, rfl⟩ := c0 g' s h1 h2; rw [aw_s1]; decide) (fun g' s h1 h2 => by obtain ⟨rfl, rfl⟩ := c0 g' s h1 h2; rw [aw_s1]; decide)
  refine L.mono ?_
  rintro e w' ⟨rfl, γ', A', B', Q, F, e5, _, _⟩
  exact ⟨rfl, A', B', γ', Q, by omega, F⟩
theorem aw_evac (q : Wm w γ h A aw2 B awK2) (hw : A.wn ≤ 10) : Calls Tryz.prog 22 #[pt h, .int .i64 64, .int .i64 0] w fun e w' => e = .returned (.tuple #[.int .i64 128, .int .i64 0]) ∧ ∃ A' B' γ', Wm w' γ' h A' aw3 B' awK3 ∧ A'.wn ≤ 20 ∧ Fr hTn w w' γ γ' := by
  have L := evac_yes q 64 (by decide) 0 (by decide +kernel) aw_i2 0 0 aw_v2 aw_m2 aw_n2 (by rw [aw_s2]; decide) aw_e2 (by omega) (by rw [aw_f2]; decide)
  have L' : Calls Tryz.prog 22 #[pt h, .int .i64 64, .int .i64 0] w _ := L
  refine L'.mono ?_
  rintro e w' ⟨rfl, γ', F, v, Q⟩
  exact ⟨by rw [aw_a2], A.more, _, γ', Q, by show A.wn + 1 ≤ 20; omega, F⟩
theorem aw_fin (q : Wm w γ h A aw3 B awK3) : Calls Tryz.prog 30 #[pt h] w fun e w' => e = .returned (.int .i64 0) ∧ ∃ γ', Hm w' γ' h (.pointer none) A awF ∧ Fr hTn w w' γ γ' := by
  have o1 : awK3.old.length = 1 := by have := congrArg List.length aw_old; simpa using this
  have L := finish_yes q (by rw [aw_ch]; decide) (by rw [aw_ch]; decide) aw_as (fun S hS => by
    have : S.l ∈ awK3.old.map (fun S => S.l) := List.mem_map.2 ⟨S, hS, rfl⟩
    rw [aw_old] at this
    simp at this
    rw [this]; decide) (by rw [o1]; exact aw_z) (by rw [o1]; decide)
  refine L.mono ?_
  rintro e w' ⟨rfl, γ', F, Q⟩
  exact ⟨rfl, γ', Q, F⟩
theorem aw_lay2 (q : Hm w γ h (.pointer none) A awF) (hw : A.wn ≤ 20) : Calls Tryz.prog 20 #[pt h, .agg #[.int .i64 2, .int .i64 0, .int .i64 0, .int .i64 1], .slice none 0 0, .slice (some ⟨w.heap.size, 0, none⟩) 1 1] (w.alloc (.cells #[.int .u64 7] 59)) fun e w' =>
    e = .returned (.tuple #[.int .i64 64, .int .i64 0]) ∧ ∃ A' γ', Hm w' γ' h (.pointer none) A' aw5 ∧ Fr hTn w w' γ γ' := by
  have L := lay_yes (q.alloc (.cells #[.int .u64 7] 59) (.x 0)) 2 0 0 1 (aw_nil .i64 _ _) (aw_one .u64 7 59 w γ) (by intro y hy; cases hy) (by decide) (by decide) aw_w4 (by rw [aw_s4]; decide) aw_e4 (by omega)
  rw [aw_a4] at L
  refine L.mono ?_
  rintro e w' ⟨rfl, γ', F, Q⟩
  exact ⟨rfl, A.more, γ', Q, (Fr.alloc hTn w γ _ _).trans F⟩
theorem aw_set (q : Hm w γ h (.pointer none) A aw5) : Calls Tryz.prog 24 #[pt h, .int .i64 128, .int .i64 0, .int .i64 64] w fun e w' => e = .returned (.int .i64 0) ∧ Hm w' γ h (.pointer none) A aw6 ∧ Fr hTn w w' γ γ :=
  set_yes q 128 0 64 (by unfold isI Bp.isI; decide) (by unfold isI Bp.isI; decide) aw_p5
theorem aw_oldL (q : Hm w γ h (.pointer none) A aw6) : Calls Tryz.prog 14 #[pt h, .int .i64 1] w fun e w' => ∃ b cap, e = .returned (.slice (some ⟨b, 0, none⟩) 1 cap) ∧ w'.cell? ⟨b, 0, none⟩ = some (.int .i64 128) ∧ Below w.heap.size w w' := by
  refine (old_any q 1).mono ?_
  rintro e w' ⟨v, rfl, R, _, Bl⟩
  rw [aw_l6] at R
  obtain ⟨b, cap, rfl, _, ck⟩ := row_form R (by decide)
  exact ⟨b, cap, rfl, ck 0 (by decide), Bl⟩
theorem aw_ptr (q : Hm w γ h (.pointer none) A aw6) : Calls Tryz.prog 12 #[pt h, .int .i64 128, .int .i64 0] w fun e w' => e = .returned (.tuple #[.int .i64 64, .int .i64 0]) ∧ Below w.heap.size w w' := by
  have hI : isI 128 := by unfold isI Bp.isI; decide
  have D := hd_ok q (sgl_rest q) (x := 128) (fun W b => by have := vis_rest (q.later b) 128 hI; rw [aw_c6] at this; exact this)
  rw [aw_h6] at D
  have P := ptr_ok q D (i := 0) (by decide) (by decide) (by decide)
  rw [aw_x6] at P
  exact P
theorem awake_any (tb : Sh.Table w) (sp : Wo.Spans w) : Calls Tryz.prog 8 #[] w fun e w' => e = .returned (.bool true) ∧ Below w.heap.size w w' := by
  have G : Gl w (fun _ => .no) := ⟨tb, sp, rfl, rfl⟩
  have NW := aw_new G
  have END : ∀ (w' : World) (γ' : Nat → Tg), Fr hTn w w' (fun _ => .no) γ' → Below w.heap.size w w' := fun w' γ' F => F.below (fun k hk => fun e => e (.inl rfl)) (Nat.le_refl _)
  have HE := Hid.mk END
  clear G tb sp END
  go_enter Tryz.func8, Tryz.ntmps8
  go_wp2_with (first
    | (go_at_call 34; refine NW.mono ?_; rintro e w1 ⟨h, A, γ1, rfl, Q1, e0, F1⟩; have L1 := aw_lay1 Q1 e0; have HF1 := Hid.mk F1; clear F1 Q1 NW)
    | (go_at_call 20; refine L1.mono ?_; rintro e w2 ⟨rfl, A2, γ2, Q2, e2, F2⟩; have L2 := aw_begin Q2 e2; have HF2 := Hid.mk (HF1.out.trans F2); clear F2 Q2 L1)
    | (go_at_call 28; refine L2.mono ?_; rintro e w3 ⟨rfl, A3, B3, γ3, Q3, e3, F3⟩; have L3 := aw_evac Q3 e3; have HF3 := Hid.mk (HF2.out.trans F3); clear F3 Q3 L2)
    | (go_at_call 22; refine L3.mono ?_; rintro e w4 ⟨rfl, A4, B4, γ4, Q4, e4, F4⟩; have L4 := aw_fin Q4; have HF4 := Hid.mk (HF3.out.trans F4); clear F4 Q4 L3)
    | (go_at_call 30; refine L4.mono ?_; rintro e w5 ⟨rfl, γ5, Q5, F5⟩; have L5 := aw_lay2 Q5 e4; have HF5 := Hid.mk (HF4.out.trans F5); clear F5 Q5 L4)
    | (go_at_call 20; refine L5.mono ?_; rintro e w6 ⟨rfl, A6, γ6, Q6, F6⟩; have L6 := aw_set Q6; have HF6 := Hid.mk (HF5.out.trans F6); clear F6 Q6 L5)
    | (go_at_call 24; refine L6.mono ?_; rintro e w7 ⟨rfl, Q7, F7⟩; have L7 := aw_oldL Q7; have HQ7 := Hid.mk Q7; have HF7 := Hid.mk (HF6.out.trans F7); clear F7 Q7 L6)
    | (go_at_call 14; refine L7.mono ?_; rintro e w8 ⟨b, cap, rfl, ck, B8⟩; have L8 := aw_ptr (HQ7.out.later B8); have HB8 := Hid.mk B8; clear L7 B8)
    | (go_at_call 12; refine L8.mono ?_; rintro e w9 ⟨rfl, B9⟩; have ck9 := (B9.cell (World.block_lt_of_cell? _ _ ck)).trans ck; have HB9 := Hid.mk B9; clear B9 L8))
  go_ret
  exact ⟨rfl, HE.out _ _ (HF7.out.trans ((Fr.later hTn _ HB8.out).trans (Fr.later hTn _ HB9.out)))⟩
end
end Go.Proofs.YtbdoekffadmejaaGreatDoor

/- What the rows' listed variables give the walks, a world for the rows' witnesses, and what every card of this seat asks besides. -/
namespace Go.Proofs.YtbdoekffadmejaaGreatDoor
open Go.ChangeShapes Go.WideShapes Go.ChangeAt Go.RowKit

set_option maxRecDepth 100000
theorem own : ownKnob Tryz.prog.godebug = none := by kernel_rfl
theorem laidOut : laidOutB Tryz.prog = true := by kernel_rfl
abbrev listed : List (String × DataW Unit) := [("midden/word.spans", Rows.laid_midden_word_spans), ("midden/shape.rows", Rows.laid_midden_shape_rows)]
namespace LaidS
theorem gRows : Tryz.prog.globalNamed "midden/shape.rows" = some 0 := by kernel_rfl
theorem gRowsType : (Tryz.prog.globals[0]?).map (·.type) = some 200 := by kernel_rfl
theorem cells200 : Tryz.prog.cellsOf 200 = 65 := by kernel_rfl
theorem cells199 : Tryz.prog.cellsOf 199 = 5 := by kernel_rfl
theorem cells197 : Tryz.prog.cellsOf 197 = 2 := by kernel_rfl
theorem cells3 : Tryz.prog.cellsOf 3 = 1 := by kernel_rfl
theorem cells4 : Tryz.prog.cellsOf 4 = 1 := by kernel_rfl


/-- A span of the table: its two cells. -/
theorem pair {enc : TypeId × Value → Unit} {W : World} {sp : Nat → Bool} {hd : Bool} {m : Nat} {cs : List Value} {a b : Int} {q : List MemPlace}
    (h : DataW.trod enc Tryz.prog W 0 sp hd m 197 cs = some (.agg [.lit (.int .i64 a), .lit (.int .i64 b)], q)) : cs = [.int .i64 a, .int .i64 b] := by
  obtain ⟨xs, n, hm, hx, hl, hn, hf⟩ := DataW.trod_struct Tryz.underlying197 h
  rw [cells197] at hl
  match cs, hl with
  | [c0, c1], _ =>
    match xs, hn with
    | [y0, y1], _ =>
      have h0 : DataW.trod enc Tryz.prog W 0 sp hd n 3 (([c0, c1].drop 0).take (Tryz.prog.cellsOf 3)) = some y0 := hf 0 _ rfl
      have h1 : DataW.trod enc Tryz.prog W 0 sp hd n 3 (([c0, c1].drop 1).take (Tryz.prog.cellsOf 3)) = some y1 := hf 1 _ rfl
      simp only [cells3, List.drop_zero, List.drop_succ_cons, List.take_succ_cons, List.take_zero] at h0 h1
      obtain ⟨a', e0, r0, _⟩ := DataW.trod_int Tryz.underlying3 h0
      obtain ⟨b', e1, r1, _⟩ := DataW.trod_int Tryz.underlying3 h1
      subst r0 r1
      simp at e0 e1 hx
      subst e0 e1
      simp [hx.1]
/-- A row of the table: its five cells. -/
theorem one {enc : TypeId × Value → Unit} {W : World} {sp : Nat → Bool} {hd : Bool} {m : Nat} {cs : List Value} {i : Bool} {a b c d : Int} {q : List MemPlace}
    (h : DataW.trod enc Tryz.prog W 0 sp hd m 199 cs = some (.agg [.lit (.bool i), .agg [.lit (.int .i64 a), .lit (.int .i64 b)], .agg [.lit (.int .i64 c), .lit (.int .i64 d)]], q)) :
    cs = [.bool i, .int .i64 a, .int .i64 b, .int .i64 c, .int .i64 d] := by
  obtain ⟨xs, n, hm, hx, hl, hn, hf⟩ := DataW.trod_struct Tryz.underlying199 h
  rw [cells199] at hl
  match cs, hl with
  | [c0, c1, c2, c3, c4], _ =>
    match xs, hn with
    | [(y0, p0), (y1, p1), (y2, p2)], _ =>
      have h0 : DataW.trod enc Tryz.prog W 0 sp hd n 4 (([c0, c1, c2, c3, c4].drop 0).take (Tryz.prog.cellsOf 4)) = some (y0, p0) := hf 0 _ rfl
      have h1 : DataW.trod enc Tryz.prog W 0 sp hd n 197 (([c0, c1, c2, c3, c4].drop 1).take (Tryz.prog.cellsOf 197)) = some (y1, p1) := hf 1 _ rfl
      have h2 : DataW.trod enc Tryz.prog W 0 sp hd n 197 (([c0, c1, c2, c3, c4].drop 3).take (Tryz.prog.cellsOf 197)) = some (y2, p2) := hf 2 _ rfl
      simp only [cells4, cells197, List.drop_zero, List.drop_succ_cons, List.take_succ_cons, List.take_zero] at h0 h1 h2
      simp only [List.map_cons, List.map_nil, Prod.mk.injEq, DataW.agg.injEq, List.cons.injEq, and_true] at hx
      obtain ⟨⟨e0, e1, e2⟩, _⟩ := hx
      subst e0 e1 e2
      obtain ⟨b', e0, r0⟩ := DataW.trod_bool Tryz.underlying4 h0
      have g1 := pair h1
      have g2 := pair h2
      simp at e0 r0 g1 g2
      simp [e0, r0.1, g1, g2]

theorem cellOf {W : World} {l : List Value} {k : Nat} {r : List Value} (cell : ∀ o, W.cell? ⟨0, o, none⟩ = l[o]?) (h : (l.drop (k * 5)).take 5 = r) (j : Nat) (hj : j < 5) : W.cell? ⟨0, k * 5 + j, none⟩ = r[j]? := by
  rw [cell, ← h, List.getElem?_take_of_lt hj, List.getElem?_drop]

theorem table_of {W : World} (h : laidMetH Tryz.prog listed W) : Sh.Table W := by
  obtain ⟨ps, ⟨_, _, _, _, _, _, _, _, _, _, ⟨g0, t0, cs0, f0, p0, q0, hg0, ht0, hv0, hd0, _, _⟩, _⟩, _, _⟩ := h
  obtain rfl := Option.some.inj (gRows.symm.trans hg0)
  obtain rfl := Option.some.inj (gRowsType.symm.trans ht0)
  obtain ⟨xs, m, rfl, hx, hlen, hn, hel⟩ := DataW.trod_array Tryz.underlying200 hd0
  have cell := World.var?_cell hg0 hv0
  rw [cells199] at hel
  simp only [Prod.mk.injEq, Rows.laid_midden_shape_rows, DataW.agg.injEq] at hx
  obtain ⟨l⟩ := cs0
  have cell : ∀ o, W.cell? ⟨0, o, none⟩ = l[o]? := fun o => by rw [cell o]; simp
  match xs, hn with
  | [x0, x1, x2, x3, x4, x5, x6, x7, x8, x9, x10, x11, x12], _ =>
    simp only [List.map_cons, List.map_nil, List.cons.injEq, and_true] at hx
    obtain ⟨⟨e0, e1, e2, e3, e4, e5, e6, e7, e8, e9, e10, e11, e12⟩, _⟩ := hx
    obtain ⟨d0, q0⟩ := x0
    obtain ⟨d1, q1⟩ := x1
    obtain ⟨d2, q2⟩ := x2
    obtain ⟨d3, q3⟩ := x3
    obtain ⟨d4, q4⟩ := x4
    obtain ⟨d5, q5⟩ := x5
    obtain ⟨d6, q6⟩ := x6
    obtain ⟨d7, q7⟩ := x7
    obtain ⟨d8, q8⟩ := x8
    obtain ⟨d9, q9⟩ := x9
    obtain ⟨d10, q10⟩ := x10
    obtain ⟨d11, q11⟩ := x11
    obtain ⟨d12, q12⟩ := x12
    dsimp only at e0 e1 e2 e3 e4 e5 e6 e7 e8 e9 e10 e11 e12
    subst e0 e1 e2 e3 e4 e5 e6 e7 e8 e9 e10 e11 e12
    have r0 := one (hel 0 (by decide))
    have r1 := one (hel 1 (by decide))
    have r2 := one (hel 2 (by decide))
    have r3 := one (hel 3 (by decide))
    have r4 := one (hel 4 (by decide))
    have r5 := one (hel 5 (by decide))
    have r6 := one (hel 6 (by decide))
    have r7 := one (hel 7 (by decide))
    have r8 := one (hel 8 (by decide))
    have r9 := one (hel 9 (by decide))
    have r10 := one (hel 10 (by decide))
    have r11 := one (hel 11 (by decide))
    have r12 := one (hel 12 (by decide))
    refine ⟨fun k hk => ?_, fun k hk => ?_, fun k hk => ?_, fun k hk => ?_, fun k hk => ?_⟩
    · match k, hk with
      | 0, _ => exact cellOf cell r0 0 (by decide)
      | 1, _ => exact cellOf cell r1 0 (by decide)
      | 2, _ => exact cellOf cell r2 0 (by decide)
      | 3, _ => exact cellOf cell r3 0 (by decide)
      | 4, _ => exact cellOf cell r4 0 (by decide)
      | 5, _ => exact cellOf cell r5 0 (by decide)
      | 6, _ => exact cellOf cell r6 0 (by decide)
      | 7, _ => exact cellOf cell r7 0 (by decide)
      | 8, _ => exact cellOf cell r8 0 (by decide)
      | 9, _ => exact cellOf cell r9 0 (by decide)
      | 10, _ => exact cellOf cell r10 0 (by decide)
      | 11, _ => exact cellOf cell r11 0 (by decide)
      | 12, _ => exact cellOf cell r12 0 (by decide)
    · match k, hk with
      | 0, _ => exact cellOf cell r0 1 (by decide)
      | 1, _ => exact cellOf cell r1 1 (by decide)
      | 2, _ => exact cellOf cell r2 1 (by decide)
      | 3, _ => exact cellOf cell r3 1 (by decide)
      | 4, _ => exact cellOf cell r4 1 (by decide)
      | 5, _ => exact cellOf cell r5 1 (by decide)
      | 6, _ => exact cellOf cell r6 1 (by decide)
      | 7, _ => exact cellOf cell r7 1 (by decide)
      | 8, _ => exact cellOf cell r8 1 (by decide)
      | 9, _ => exact cellOf cell r9 1 (by decide)
      | 10, _ => exact cellOf cell r10 1 (by decide)
      | 11, _ => exact cellOf cell r11 1 (by decide)
      | 12, _ => exact cellOf cell r12 1 (by decide)
    · match k, hk with
      | 0, _ => exact cellOf cell r0 2 (by decide)
      | 1, _ => exact cellOf cell r1 2 (by decide)
      | 2, _ => exact cellOf cell r2 2 (by decide)
      | 3, _ => exact cellOf cell r3 2 (by decide)
      | 4, _ => exact cellOf cell r4 2 (by decide)
      | 5, _ => exact cellOf cell r5 2 (by decide)
      | 6, _ => exact cellOf cell r6 2 (by decide)
      | 7, _ => exact cellOf cell r7 2 (by decide)
      | 8, _ => exact cellOf cell r8 2 (by decide)
      | 9, _ => exact cellOf cell r9 2 (by decide)
      | 10, _ => exact cellOf cell r10 2 (by decide)
      | 11, _ => exact cellOf cell r11 2 (by decide)
      | 12, _ => exact cellOf cell r12 2 (by decide)
    · match k, hk with
      | 0, _ => exact cellOf cell r0 3 (by decide)
      | 1, _ => exact cellOf cell r1 3 (by decide)
      | 2, _ => exact cellOf cell r2 3 (by decide)
      | 3, _ => exact cellOf cell r3 3 (by decide)
      | 4, _ => exact cellOf cell r4 3 (by decide)
      | 5, _ => exact cellOf cell r5 3 (by decide)
      | 6, _ => exact cellOf cell r6 3 (by decide)
      | 7, _ => exact cellOf cell r7 3 (by decide)
      | 8, _ => exact cellOf cell r8 3 (by decide)
      | 9, _ => exact cellOf cell r9 3 (by decide)
      | 10, _ => exact cellOf cell r10 3 (by decide)
      | 11, _ => exact cellOf cell r11 3 (by decide)
      | 12, _ => exact cellOf cell r12 3 (by decide)
    · match k, hk with
      | 0, _ => exact cellOf cell r0 4 (by decide)
      | 1, _ => exact cellOf cell r1 4 (by decide)
      | 2, _ => exact cellOf cell r2 4 (by decide)
      | 3, _ => exact cellOf cell r3 4 (by decide)
      | 4, _ => exact cellOf cell r4 4 (by decide)
      | 5, _ => exact cellOf cell r5 4 (by decide)
      | 6, _ => exact cellOf cell r6 4 (by decide)
      | 7, _ => exact cellOf cell r7 4 (by decide)
      | 8, _ => exact cellOf cell r8 4 (by decide)
      | 9, _ => exact cellOf cell r9 4 (by decide)
      | 10, _ => exact cellOf cell r10 4 (by decide)
      | 11, _ => exact cellOf cell r11 4 (by decide)
      | 12, _ => exact cellOf cell r12 4 (by decide)

end LaidS
namespace LaidW
theorem gSpans : Tryz.prog.globalNamed "midden/word.spans" = some 1 := by kernel_rfl
theorem gSpansType : (Tryz.prog.globals[1]?).map (·.type) = some 206 := by kernel_rfl
theorem cells206 : Tryz.prog.cellsOf 206 = 12 := by kernel_rfl
theorem cells205 : Tryz.prog.cellsOf 205 = 2 := by kernel_rfl
theorem cells203 : Tryz.prog.cellsOf 203 = 1 := by kernel_rfl


/-- One pair of numbers of the table: its two cells. -/
theorem pair {enc : TypeId × Value → Unit} {W : World} {sp : Nat → Bool} {hd : Bool} {m : Nat} {c0 c1 : Value} {a b : Int} {q : List MemPlace}
    (h : DataW.trod enc Tryz.prog W 0 sp hd m 205 [c0, c1] = some (.agg [.lit (.int .u64 a), .lit (.int .u64 b)], q)) : c0 = .int .u64 a ∧ c1 = .int .u64 b := by
  obtain ⟨y0, y1, n, hx, _, h0, h1⟩ := trod_struct2 Tryz.underlying205 h
  simp only [cells203, List.drop_zero, List.drop_succ_cons, List.take_succ_cons, List.take_zero] at h0 h1
  obtain ⟨a', e0, r0, _⟩ := DataW.trod_int Tryz.underlying203 h0
  obtain ⟨b', e1, r1, _⟩ := DataW.trod_int Tryz.underlying203 h1
  subst r0 r1
  simp at e0 e1 hx
  subst e0 e1
  simp [hx.1]

theorem spans_of {W : World} (h : laidMetH Tryz.prog listed W) : Wo.Spans W := by
  obtain ⟨ps, ⟨g0, t0, cs0, f0, p0, q0, hg0, ht0, hv0, hd0, _⟩, _⟩ := h
  obtain rfl := Option.some.inj (gSpans.symm.trans hg0)
  obtain rfl := Option.some.inj (gSpansType.symm.trans ht0)
  obtain ⟨xs, m, rfl, hx, hlen, hn, hel⟩ := DataW.trod_array Tryz.underlying206 hd0
  have cell := World.var?_cell hg0 hv0
  rw [cells206] at hlen
  rw [cells205] at hel
  simp only [Prod.mk.injEq, Rows.laid_midden_word_spans, DataW.agg.injEq] at hx
  obtain ⟨l⟩ := cs0
  match l, hlen with
  | [a0, a1, a2, a3, a4, a5, a6, a7, a8, a9, a10, a11], _ =>
    match xs, hn with
    | [x0, x1, x2, x3, x4, x5], _ =>
      simp only [List.map_cons, List.map_nil, List.cons.injEq, and_true] at hx
      obtain ⟨⟨e0, e1, e2, e3, e4, e5⟩, _⟩ := hx
      obtain ⟨d0, q0⟩ := x0
      obtain ⟨d1, q1⟩ := x1
      obtain ⟨d2, q2⟩ := x2
      obtain ⟨d3, q3⟩ := x3
      obtain ⟨d4, q4⟩ := x4
      obtain ⟨d5, q5⟩ := x5
      dsimp only at e0 e1 e2 e3 e4 e5
      subst e0 e1 e2 e3 e4 e5
      obtain ⟨rfl, rfl⟩ := pair (hel 0 (by decide))
      obtain ⟨rfl, rfl⟩ := pair (hel 1 (by decide))
      obtain ⟨rfl, rfl⟩ := pair (hel 2 (by decide))
      obtain ⟨rfl, rfl⟩ := pair (hel 3 (by decide))
      obtain ⟨rfl, rfl⟩ := pair (hel 4 (by decide))
      obtain ⟨rfl, rfl⟩ := pair (hel 5 (by decide))
      exact ⟨cell 0, cell 1, cell 2, cell 3, cell 4, cell 5, cell 6, cell 7, cell 8, cell 9, cell 10, cell 11⟩

end LaidW
/-- What the initialisers lay. -/
def lay0 : Obj → Obj
  | .cells _ t frozen => .cells #[.bool false, .int .i64 0, .int .i64 0, .int .i64 0, .int .i64 0, .bool true, .int .i64 0, .int .i64 8, .int .i64 0, .int .i64 0, .bool false, .int .i64 0, .int .i64 0, .int .i64 1, .int .i64 1, .bool true, .int .i64 0, .int .i64 255, .int .i64 0, .int .i64 0, .bool false, .int .i64 2, .int .i64 9, .int .i64 0, .int .i64 0, .bool false, .int .i64 2, .int .i64 9, .int .i64 0, .int .i64 0, .bool true, .int .i64 0, .int .i64 255, .int .i64 0, .int .i64 1, .bool true, .int .i64 1, .int .i64 1, .int .i64 1, .int .i64 1, .bool false, .int .i64 1, .int .i64 1, .int .i64 0, .int .i64 4095, .bool false, .int .i64 0, .int .i64 0, .int .i64 1, .int .i64 4095, .bool false, .int .i64 1, .int .i64 1, .int .i64 0, .int .i64 0, .bool false, .int .i64 0, .int .i64 1024, .int .i64 0, .int .i64 0, .bool false, .int .i64 0, .int .i64 0, .int .i64 1, .int .i64 4095] t frozen
  | o => o
def lay1 : Obj → Obj
  | .cells _ t frozen => .cells #[.int .u64 0, .int .u64 1, .int .u64 1, .int .u64 4, .int .u64 5, .int .u64 12, .int .u64 17, .int .u64 12, .int .u64 29, .int .u64 20, .int .u64 49, .int .u64 15] t frozen
  | o => o
/-- A world for the witnesses: the settled one, the tables holding what their initialisers lay. -/
noncomputable def laidWorld (os : Os) : World :=
  { World.holding Tryz.prog os ⟨#[], #[], []⟩ with heap := ((World.holding Tryz.prog os ⟨#[], #[], []⟩).heap.modify 0 lay0).modify 1 lay1 }
end Go.Proofs.YtbdoekffadmejaaGreatDoor

/- An act that came in, opened. -/
namespace Go.Proofs.YtbdoekffadmejaaGreatDoor
open Go.ChangeShapes Go.WideShapes Go.ChangeAt Go.RowKit
set_option linter.unusedVariables false
set_option linter.unusedSimpArgs false
set_option maxRecDepth 100000

theorem c3 : Tryz.prog.cellsOf 3 = 1 := by kernel_rfl
theorem c30 : Tryz.prog.cellsOf 30 = 4 := by kernel_rfl
theorem c31 : Tryz.prog.cellsOf 31 = 1 := by kernel_rfl
theorem c32 : Tryz.prog.cellsOf 32 = 1 := by kernel_rfl
theorem c34 : Tryz.prog.cellsOf 34 = 10 := by kernel_rfl
section
variable {H : Type} {enc : TypeId × Value → H} {w : World} {spare : Nat → Bool} {held : Bool}
theorem op_hd {fuel : Nat} {cs : List Value} {x : DataW H × List MemPlace} (h : DataW.trod enc Tryz.prog w 0 spare held fuel 30 cs = some x) : ∃ a b c d : Int, cs = [.int .i64 a, .int .i64 b, .int .i64 c, .int .i64 d] := by
  obtain ⟨xs, n, _, rfl, hl, hlen, hf⟩ := DataW.trod_struct Tryz.underlying30 h
  rw [c30] at hl
  match cs, hl, xs, hlen with
  | [v0, v1, v2, v3], _, [x0, x1, x2, x3], _ =>
    have f0 := hf 0 _ rfl
    have f1 := hf 1 _ rfl
    have f2 := hf 2 _ rfl
    have f3 := hf 3 _ rfl
    simp [c3] at f0 f1 f2 f3
    obtain ⟨k0, e0, y0, w0⟩ := DataW.trod_int Tryz.underlying3 f0
    obtain ⟨k1, e1, y1, w1⟩ := DataW.trod_int Tryz.underlying3 f1
    obtain ⟨k2, e2, y2, w2⟩ := DataW.trod_int Tryz.underlying3 f2
    obtain ⟨k3, e3, y3, w3⟩ := DataW.trod_int Tryz.underlying3 f3
    simp only [List.cons.injEq, and_true] at e0 e1 e2 e3
    subst e0 e1 e2 e3
    exact ⟨k0, k1, k2, k3, rfl⟩
theorem op_sl {fuel : Nat} {t e : TypeId} {cs : List Value} {x : DataW H × List MemPlace} (ht : Tryz.prog.underlying t = some (.slice e)) (h : DataW.trod enc Tryz.prog w 0 spare held fuel t cs = some x) : ∃ a n c, cs = [.slice a n c] := by
  rcases DataW.trod_slice ht h with ⟨e, _⟩ | ⟨a, n, c, _, _, _, _, e, _⟩
  · exact ⟨_, _, _, e⟩
  · exact ⟨_, _, _, e⟩
theorem open_act {v : Value} {d : DataW H} {p : List MemPlace} (h : DataW.Trod enc Tryz.prog w 0 spare held 34 v d p) : ∃ (k a i p x1 x2 x3 x4 : Int) (ga : Option Addr) (n1 c1 : Nat) (gb : Option Addr) (n2 c2 : Nat),
    v = .agg #[.int .i64 k, .int .i64 a, .int .i64 i, .int .i64 p, .int .i64 x1, .int .i64 x2, .int .i64 x3, .int .i64 x4, .slice ga n1 c1, .slice gb n2 c2] := by
  obtain ⟨fuel, hf⟩ := h
  have e : ∃ (k a i p x1 x2 x3 x4 : Int) (ga : Option Addr) (n1 c1 : Nat) (gb : Option Addr) (n2 c2 : Nat), v.cells.toList = [.int .i64 k, .int .i64 a, .int .i64 i, .int .i64 p, .int .i64 x1, .int .i64 x2, .int .i64 x3, .int .i64 x4, .slice ga n1 c1, .slice gb n2 c2] := by
    obtain ⟨xs, n, _, _, hl, hlen, hf⟩ := DataW.trod_struct Tryz.underlying34 hf
    rw [c34] at hl
    generalize v.cells.toList = cs at *
    match cs, hl, xs, hlen with
    | [v0, v1, v2, v3, v4, v5, v6, v7, v8, v9], _, [x0, x1, x2, x3, x4, x5, x6], _ =>
      have f0 := hf 0 _ rfl
      have f1 := hf 1 _ rfl
      have f2 := hf 2 _ rfl
      have f3 := hf 3 _ rfl
      have f4 := hf 4 _ rfl
      have f5 := hf 5 _ rfl
      have f6 := hf 6 _ rfl
      simp [c3, c30, c31, c32] at f0 f1 f2 f3 f4 f5 f6
      obtain ⟨k0, e0, y0, w0⟩ := DataW.trod_int Tryz.underlying3 f0
      obtain ⟨k1, e1, y1, w1⟩ := DataW.trod_int Tryz.underlying3 f1
      obtain ⟨k2, e2, y2, w2⟩ := DataW.trod_int Tryz.underlying3 f2
      obtain ⟨k3, e3, y3, w3⟩ := DataW.trod_int Tryz.underlying3 f3
      obtain ⟨a, b, c, d, e4⟩ := op_hd f4
      obtain ⟨ga, n1, c1, e5⟩ := op_sl Tryz.underlying31 f5
      obtain ⟨gb, n2, c2, e6⟩ := op_sl Tryz.underlying32 f6
      simp only [List.cons.injEq, and_true] at e0 e1 e2 e3 e4 e5 e6
      obtain ⟨rfl, rfl, rfl, rfl⟩ := e4
      subst e0 e1 e2 e3 e5 e6
      exact ⟨_, _, _, _, _, _, _, _, _, _, _, _, _, _, rfl⟩
  obtain ⟨k, a, i, p, x1, x2, x3, x4, ga, n1, c1, gb, n2, c2, e⟩ := e
  refine ⟨k, a, i, p, x1, x2, x3, x4, ga, n1, c1, gb, n2, c2, ?_⟩
  cases v with
  | agg cs =>
    obtain ⟨l⟩ := cs
    simp only [Value.cells] at e
    rw [e]
  | _ => simp [Value.cells] at e
end
end Go.Proofs.YtbdoekffadmejaaGreatDoor

/- Package heap: the law HeapNone: the walk over a nil heap. -/
namespace Go.Proofs.YtbdoekffadmejaaGreatDoor
open Go.RowKit
set_option linter.unusedVariables false
set_option linter.unusedSimpArgs false
set_option maxRecDepth 100000

theorem same_below {w w' : World} {e v : Ending} (h : e = v ∧ w' = w) : e = v ∧ Below w.heap.size w w' := ⟨h.1, by rw [h.2]; exact Below.refl _ _⟩
set_option maxHeartbeats 8000000 in
theorem none_walk (k a i p x1 x2 x3 x4 : Int) (ga : Option Addr) (n1 c1 : Nat) (gb : Option Addr) (n2 c2 : Nat) (w : World) (tb : Sh.Table w) (sp : Wo.Spans w) :
    Calls Tryz.prog 6 #[.agg #[.int .i64 k, .int .i64 a, .int .i64 i, .int .i64 p, .int .i64 x1, .int .i64 x2, .int .i64 x3, .int .i64 x4, .slice ga n1 c1, .slice gb n2 c2]] w fun e w' => e = .returned (.bool true) ∧ Below w.heap.size w w' := by
  have HX := Hid.mk (heap_alloc_new w (.cells #[.int .i64 k, .int .i64 a, .int .i64 i, .int .i64 p, .int .i64 x1, .int .i64 x2, .int .i64 x3, .int .i64 x4, .slice ga n1 c1, .slice gb n2 c2] 34))
  have HB := Hid.mk ((Below.refl _ w).alloc (Nat.le_refl _) (.cells #[.int .i64 k, .int .i64 a, .int .i64 i, .int .i64 p, .int .i64 x1, .int .i64 x2, .int .i64 x3, .int .i64 x4, .slice ga n1 c1, .slice gb n2 c2] 34))
  have HT := Hid.mk (And.intro tb sp)
  have LE := fun W => lay_err (sgl_nil W) (by decide) x1 x2 x3 x4 (.slice ga n1 c1) (.slice gb n2 c2)
  have HG := fun W => hd_gone (sgl_nil W) (by decide) a
  have PE := fun W => ptr_err (hd_gone (sgl_nil W) (by decide) a) (by decide) (i := i)
  have NE := fun W => non_err (hd_gone (sgl_nil W) (by decide) a) (by decide) (i := i)
  have WE := fun W => where_err (sgl_nil W) (by decide) a
  have EE := fun W => evac_err (sgl_nil W) (by decide) a i
  have FE := fun W => fresh_err (sgl_nil W) (by decide)
  have SE := fun W => set_err (sgl_nil W) (by decide) a i p
  have PA := fun W => pass_err (sgl_nil W) (by decide) a p
  have HO := fun W => hole_err (sgl_nil W) (by decide) a
  have FA := fun W => fail_err (sgl_nil W) (by decide) a 1
  have BE := fun W => begin_err (sgl_nil W) (by decide) i
  have ST := fun W => store_err (sgl_nil W) (by decide) a i p
  have FI := fun W => finish_err (sgl_nil W) (by decide)
  have OE := fun W => old_err (sgl_nil W) (by decide) i
  have LF := fun W => left_err (sgl_nil W) (by decide)
  have CN := fun W => (closures_nilh W i 0).mono (fun e w' q => same_below q)
  have UN := fun W => (used_nilh W i).mono (fun e w' q => same_below q)
  have BN := fun W => (blocks_nilh W i).mono (fun e w' q => same_below q)
  clear tb sp
  unfold HdC at HG
  go_enter Tryz.func6, Tryz.ntmps6
  go_wp2_with (first
    | (go_at_call 20; refine (LE _).mono ?_; rintro e w1 ⟨rfl, B⟩; have HX := Hid.mk ((B.block w.heap.size (lt_of HX.out)).trans HX.out); have k1 : w1.cell? ⟨w.heap.size, 1, none⟩ = some (.int .i64 a) := hd4 HX.out 1; have k2 : w1.cell? ⟨w.heap.size, 2, none⟩ = some (.int .i64 i) := hd4 HX.out 2; have k3 : w1.cell? ⟨w.heap.size, 3, none⟩ = some (.int .i64 p) := hd4 HX.out 3; have HB := Hid.mk (HB.out.trans (B.mono HB.out.size)); clear B)
    | (go_at_call 11; refine (HG _).mono ?_; rintro e w2 ⟨rfl, B⟩; have HX := Hid.mk ((B.block w.heap.size (lt_of HX.out)).trans HX.out); have k1 : w2.cell? ⟨w.heap.size, 1, none⟩ = some (.int .i64 a) := hd4 HX.out 1; have k2 : w2.cell? ⟨w.heap.size, 2, none⟩ = some (.int .i64 i) := hd4 HX.out 2; have k3 : w2.cell? ⟨w.heap.size, 3, none⟩ = some (.int .i64 p) := hd4 HX.out 3; have HB := Hid.mk (HB.out.trans (B.mono HB.out.size)); clear B; have BZ := (Below.refl _ w2).alloc (Nat.le_refl _) (.cells #[.int .i64 0, .int .i64 0, .int .i64 0, .int .i64 0] 30); have HY := Hid.mk (heap_alloc_new w2 (.cells #[.int .i64 0, .int .i64 0, .int .i64 0, .int .i64 0] 30)); have HX := Hid.mk ((BZ.block w.heap.size (lt_of HX.out)).trans HX.out); have k1 : (w2.alloc (.cells #[.int .i64 0, .int .i64 0, .int .i64 0, .int .i64 0] 30)).cell? ⟨w.heap.size, 1, none⟩ = some (.int .i64 a) := hd4 HX.out 1; have k2 : (w2.alloc (.cells #[.int .i64 0, .int .i64 0, .int .i64 0, .int .i64 0] 30)).cell? ⟨w.heap.size, 2, none⟩ = some (.int .i64 i) := hd4 HX.out 2; have k3 : (w2.alloc (.cells #[.int .i64 0, .int .i64 0, .int .i64 0, .int .i64 0] 30)).cell? ⟨w.heap.size, 3, none⟩ = some (.int .i64 p) := hd4 HX.out 3; have HB := Hid.mk (HB.out.trans (BZ.mono HB.out.size)); clear BZ)
    | (go_at_call 12; refine (PE _).mono ?_; rintro e w3 ⟨rfl, B⟩; have HX := Hid.mk ((B.block w.heap.size (lt_of HX.out)).trans HX.out); have k1 : w3.cell? ⟨w.heap.size, 1, none⟩ = some (.int .i64 a) := hd4 HX.out 1; have k2 : w3.cell? ⟨w.heap.size, 2, none⟩ = some (.int .i64 i) := hd4 HX.out 2; have k3 : w3.cell? ⟨w.heap.size, 3, none⟩ = some (.int .i64 p) := hd4 HX.out 3; have HY := Hid.mk ((B.block w2.heap.size (lt_of HY.out)).trans HY.out); have HB := Hid.mk (HB.out.trans (B.mono HB.out.size)); clear B)
    | (go_at_call 19; refine (NE _).mono ?_; rintro e w4 ⟨rfl, B⟩; have HX := Hid.mk ((B.block w.heap.size (lt_of HX.out)).trans HX.out); have k1 : w4.cell? ⟨w.heap.size, 1, none⟩ = some (.int .i64 a) := hd4 HX.out 1; have k2 : w4.cell? ⟨w.heap.size, 2, none⟩ = some (.int .i64 i) := hd4 HX.out 2; have k3 : w4.cell? ⟨w.heap.size, 3, none⟩ = some (.int .i64 p) := hd4 HX.out 3; have HY := Hid.mk ((B.block w2.heap.size (lt_of HY.out)).trans HY.out); have HB := Hid.mk (HB.out.trans (B.mono HB.out.size)); clear B)
    | (go_at_call 21; refine (WE _).mono ?_; rintro e w5 ⟨rfl, B⟩; have HX := Hid.mk ((B.block w.heap.size (lt_of HX.out)).trans HX.out); have k1 : w5.cell? ⟨w.heap.size, 1, none⟩ = some (.int .i64 a) := hd4 HX.out 1; have k2 : w5.cell? ⟨w.heap.size, 2, none⟩ = some (.int .i64 i) := hd4 HX.out 2; have k3 : w5.cell? ⟨w.heap.size, 3, none⟩ = some (.int .i64 p) := hd4 HX.out 3; have HY := Hid.mk ((B.block w2.heap.size (lt_of HY.out)).trans HY.out); have HB := Hid.mk (HB.out.trans (B.mono HB.out.size)); clear B)
    | (go_at_call 22; refine (EE _).mono ?_; rintro e w6 ⟨rfl, B⟩; have HX := Hid.mk ((B.block w.heap.size (lt_of HX.out)).trans HX.out); have k1 : w6.cell? ⟨w.heap.size, 1, none⟩ = some (.int .i64 a) := hd4 HX.out 1; have k2 : w6.cell? ⟨w.heap.size, 2, none⟩ = some (.int .i64 i) := hd4 HX.out 2; have k3 : w6.cell? ⟨w.heap.size, 3, none⟩ = some (.int .i64 p) := hd4 HX.out 3; have HY := Hid.mk ((B.block w2.heap.size (lt_of HY.out)).trans HY.out); have HB := Hid.mk (HB.out.trans (B.mono HB.out.size)); clear B)
    | (go_at_call 23; refine (FE _).mono ?_; rintro e w7 ⟨rfl, B⟩; have HX := Hid.mk ((B.block w.heap.size (lt_of HX.out)).trans HX.out); have k1 : w7.cell? ⟨w.heap.size, 1, none⟩ = some (.int .i64 a) := hd4 HX.out 1; have k2 : w7.cell? ⟨w.heap.size, 2, none⟩ = some (.int .i64 i) := hd4 HX.out 2; have k3 : w7.cell? ⟨w.heap.size, 3, none⟩ = some (.int .i64 p) := hd4 HX.out 3; have HY := Hid.mk ((B.block w2.heap.size (lt_of HY.out)).trans HY.out); have HB := Hid.mk (HB.out.trans (B.mono HB.out.size)); clear B)
    | (go_at_call 24; refine (SE _).mono ?_; rintro e w8 ⟨rfl, B⟩; have HX := Hid.mk ((B.block w.heap.size (lt_of HX.out)).trans HX.out); have k1 : w8.cell? ⟨w.heap.size, 1, none⟩ = some (.int .i64 a) := hd4 HX.out 1; have k2 : w8.cell? ⟨w.heap.size, 2, none⟩ = some (.int .i64 i) := hd4 HX.out 2; have k3 : w8.cell? ⟨w.heap.size, 3, none⟩ = some (.int .i64 p) := hd4 HX.out 3; have HY := Hid.mk ((B.block w2.heap.size (lt_of HY.out)).trans HY.out); have HB := Hid.mk (HB.out.trans (B.mono HB.out.size)); clear B)
    | (go_at_call 25; refine (PA _).mono ?_; rintro e w9 ⟨rfl, B⟩; have HX := Hid.mk ((B.block w.heap.size (lt_of HX.out)).trans HX.out); have k1 : w9.cell? ⟨w.heap.size, 1, none⟩ = some (.int .i64 a) := hd4 HX.out 1; have k2 : w9.cell? ⟨w.heap.size, 2, none⟩ = some (.int .i64 i) := hd4 HX.out 2; have k3 : w9.cell? ⟨w.heap.size, 3, none⟩ = some (.int .i64 p) := hd4 HX.out 3; have HY := Hid.mk ((B.block w2.heap.size (lt_of HY.out)).trans HY.out); have HB := Hid.mk (HB.out.trans (B.mono HB.out.size)); clear B)
    | (go_at_call 26; refine (HO _).mono ?_; rintro e w10 ⟨rfl, B⟩; have HX := Hid.mk ((B.block w.heap.size (lt_of HX.out)).trans HX.out); have k1 : w10.cell? ⟨w.heap.size, 1, none⟩ = some (.int .i64 a) := hd4 HX.out 1; have k2 : w10.cell? ⟨w.heap.size, 2, none⟩ = some (.int .i64 i) := hd4 HX.out 2; have k3 : w10.cell? ⟨w.heap.size, 3, none⟩ = some (.int .i64 p) := hd4 HX.out 3; have HY := Hid.mk ((B.block w2.heap.size (lt_of HY.out)).trans HY.out); have HB := Hid.mk (HB.out.trans (B.mono HB.out.size)); clear B)
    | (go_at_call 27; refine (FA _).mono ?_; rintro e w11 ⟨rfl, B⟩; have HX := Hid.mk ((B.block w.heap.size (lt_of HX.out)).trans HX.out); have k1 : w11.cell? ⟨w.heap.size, 1, none⟩ = some (.int .i64 a) := hd4 HX.out 1; have k2 : w11.cell? ⟨w.heap.size, 2, none⟩ = some (.int .i64 i) := hd4 HX.out 2; have k3 : w11.cell? ⟨w.heap.size, 3, none⟩ = some (.int .i64 p) := hd4 HX.out 3; have HY := Hid.mk ((B.block w2.heap.size (lt_of HY.out)).trans HY.out); have HB := Hid.mk (HB.out.trans (B.mono HB.out.size)); clear B)
    | (go_at_call 28; refine (BE _).mono ?_; rintro e w12 ⟨rfl, B⟩; have HX := Hid.mk ((B.block w.heap.size (lt_of HX.out)).trans HX.out); have k1 : w12.cell? ⟨w.heap.size, 1, none⟩ = some (.int .i64 a) := hd4 HX.out 1; have k2 : w12.cell? ⟨w.heap.size, 2, none⟩ = some (.int .i64 i) := hd4 HX.out 2; have k3 : w12.cell? ⟨w.heap.size, 3, none⟩ = some (.int .i64 p) := hd4 HX.out 3; have HY := Hid.mk ((B.block w2.heap.size (lt_of HY.out)).trans HY.out); have HB := Hid.mk (HB.out.trans (B.mono HB.out.size)); clear B)
    | (go_at_call 29; refine (ST _).mono ?_; rintro e w13 ⟨rfl, B⟩; have HX := Hid.mk ((B.block w.heap.size (lt_of HX.out)).trans HX.out); have k1 : w13.cell? ⟨w.heap.size, 1, none⟩ = some (.int .i64 a) := hd4 HX.out 1; have k2 : w13.cell? ⟨w.heap.size, 2, none⟩ = some (.int .i64 i) := hd4 HX.out 2; have k3 : w13.cell? ⟨w.heap.size, 3, none⟩ = some (.int .i64 p) := hd4 HX.out 3; have HY := Hid.mk ((B.block w2.heap.size (lt_of HY.out)).trans HY.out); have HB := Hid.mk (HB.out.trans (B.mono HB.out.size)); clear B)
    | (go_at_call 30; refine (FI _).mono ?_; rintro e w14 ⟨rfl, B⟩; have HX := Hid.mk ((B.block w.heap.size (lt_of HX.out)).trans HX.out); have k1 : w14.cell? ⟨w.heap.size, 1, none⟩ = some (.int .i64 a) := hd4 HX.out 1; have k2 : w14.cell? ⟨w.heap.size, 2, none⟩ = some (.int .i64 i) := hd4 HX.out 2; have k3 : w14.cell? ⟨w.heap.size, 3, none⟩ = some (.int .i64 p) := hd4 HX.out 3; have HY := Hid.mk ((B.block w2.heap.size (lt_of HY.out)).trans HY.out); have HB := Hid.mk (HB.out.trans (B.mono HB.out.size)); clear B))
  have BD := below_drew1 w14
  have HX := Hid.mk ((BD.block w.heap.size (lt_of HX.out)).trans HX.out); have k1 : w14.drew.cell? ⟨w.heap.size, 1, none⟩ = some (.int .i64 a) := hd4 HX.out 1; have k2 : w14.drew.cell? ⟨w.heap.size, 2, none⟩ = some (.int .i64 i) := hd4 HX.out 2; have k3 : w14.drew.cell? ⟨w.heap.size, 3, none⟩ = some (.int .i64 p) := hd4 HX.out 3; have HY := Hid.mk ((BD.block w2.heap.size (lt_of HY.out)).trans HY.out); have HB := Hid.mk (HB.out.trans (BD.mono HB.out.size)); clear BD
  refine wp_region_held_drew (S := (fun wx => Below w.heap.size w wx ∧ wx.cell? ⟨w.heap.size, 2, none⟩ = some (.int .i64 i) ∧ wx.heap[w2.heap.size]? = some (.cells #[.int .i64 0, .int .i64 0, .int .i64 0, .int .i64 0] 30 (0, 0)))) (by kernel_rfl) ⟨HB.out, k2, HY.out⟩ (fun hHeld => ?_)
  refine wpAnyH_ready (rs := [0]) (by kernel_rfl) (by simp) ?_
  refine AllReadyH.cons rfl (fun K hK => ?_) AllReadyH.nil
  go_simp
  try rw [if_pos (by decide)]
  (go_at_call 8; refine (awake_any (HT.out.1.later HB.out) (HT.out.2.later HB.out)).mono ?_; rintro e W1 ⟨rfl, B⟩; have HX := Hid.mk ((B.block w.heap.size (lt_of HX.out)).trans HX.out); have HY := Hid.mk ((B.block w2.heap.size (lt_of HY.out)).trans HY.out); have HB := Hid.mk (HB.out.trans (B.mono HB.out.size)); clear B)
  try go_wp2_with fail
  refine hK.out _ _ ⟨HB.out, hd4 HX.out 2, HY.out⟩ (fun hHeld => ?_)
  clear hK K
  try simp only [Act.put, List.getElem_toArray, List.getElem_cons_zero, List.getElem_cons_succ, List.setIfInBounds_toArray, List.set_cons_zero, List.set_cons_succ]
  refine wpAnyH_take (i := 1) (v := ?_) rfl (by kernel_rfl) (by kernel_rfl) (by kernel_rfl) (fun _ _ _ h => h) (Or.inl ⟨by rfl, ?_⟩) (by assumption) ?_
  rotate_left
  · intro w' hSw
    try dsimp only at hSw
    go_simp
    try with_reducible rfl
  try simp only [Act.put, List.getElem_toArray, List.getElem_cons_zero, List.getElem_cons_succ, List.setIfInBounds_toArray, List.set_cons_zero, List.set_cons_succ]
  refine wpAnyH_take (i := 2) (v := ?_) rfl (by kernel_rfl) (by kernel_rfl) (by kernel_rfl) (fun _ _ _ h => h) (Or.inl ⟨by rfl, ?_⟩) (by assumption) ?_
  rotate_left
  · intro w' hSw
    try dsimp only at hSw
    go_simp
    try with_reducible rfl
  try simp only [Act.put, List.getElem_toArray, List.getElem_cons_zero, List.getElem_cons_succ, List.setIfInBounds_toArray, List.set_cons_zero, List.set_cons_succ]
  refine wpAnyH_take (i := 3) (v := ?_) rfl (by kernel_rfl) (by kernel_rfl) (by kernel_rfl) (fun _ _ _ h => h) (Or.inl ⟨by rfl, ?_⟩) (by assumption) ?_
  rotate_left
  · intro w' hSw
    try dsimp only at hSw
    go_simp
    try with_reducible rfl
  try simp only [Act.put, List.getElem_toArray, List.getElem_cons_zero, List.getElem_cons_succ, List.setIfInBounds_toArray, List.set_cons_zero, List.set_cons_succ]
  refine wpAnyH_take (i := 4) (v := ?_) rfl (by kernel_rfl) (by kernel_rfl) (by kernel_rfl) (fun _ _ _ h => h) (Or.inl ⟨by rfl, ?_⟩) (by assumption) ?_
  rotate_left
  · intro w' hSw
    try dsimp only at hSw
    go_simp
    try with_reducible rfl
  try simp only [Act.put, List.getElem_toArray, List.getElem_cons_zero, List.getElem_cons_succ, List.setIfInBounds_toArray, List.set_cons_zero, List.set_cons_succ]
  refine wpAnyH_take (i := 5) (v := ?_) rfl (by kernel_rfl) (by kernel_rfl) (by kernel_rfl) (fun _ _ _ h => h) (Or.inl ⟨by rfl, ?_⟩) (by assumption) ?_
  rotate_left
  · intro w' hSw
    try dsimp only at hSw
    have z0 := hd4 hSw.2.2 0
    have z1 := hd4 hSw.2.2 1
    have z2 := hd4 hSw.2.2 2
    have z3 := hd4 hSw.2.2 3
    simp only [List.getElem?_toArray, List.getElem?_cons_zero, List.getElem?_cons_succ] at z0 z1 z2 z3
    go_simp
    try with_reducible rfl
  try simp only [Act.put, List.getElem_toArray, List.getElem_cons_zero, List.getElem_cons_succ, List.setIfInBounds_toArray, List.set_cons_zero, List.set_cons_succ]
  refine wpAnyH_take (i := 6) (v := ?_) rfl (by kernel_rfl) (by kernel_rfl) (by kernel_rfl) (fun _ _ _ h => h) (Or.inl ⟨by rfl, ?_⟩) (by assumption) ?_
  rotate_left
  · intro w' hSw
    try dsimp only at hSw
    go_simp
    try with_reducible rfl
  try simp only [Act.put, List.getElem_toArray, List.getElem_cons_zero, List.getElem_cons_succ, List.setIfInBounds_toArray, List.set_cons_zero, List.set_cons_succ]
  refine wpAnyH_take (i := 7) (v := ?_) rfl (by kernel_rfl) (by kernel_rfl) (by kernel_rfl) (fun _ _ _ h => h) (Or.inl ⟨by rfl, ?_⟩) (by assumption) ?_
  rotate_left
  · intro w' hSw
    try dsimp only at hSw
    go_simp
    try with_reducible rfl
  try simp only [Act.put, List.getElem_toArray, List.getElem_cons_zero, List.getElem_cons_succ, List.setIfInBounds_toArray, List.set_cons_zero, List.set_cons_succ]
  refine wpAnyH_take (i := 8) (v := ?_) rfl (by kernel_rfl) (by kernel_rfl) (by kernel_rfl) (fun _ _ _ h => h) (Or.inl ⟨by rfl, ?_⟩) (by assumption) ?_
  rotate_left
  · intro w' hSw
    try dsimp only at hSw
    go_simp
    try with_reducible rfl
  try simp only [Act.put, List.getElem_toArray, List.getElem_cons_zero, List.getElem_cons_succ, List.setIfInBounds_toArray, List.set_cons_zero, List.set_cons_succ]
  refine wpAnyH_take (i := 9) (v := ?_) rfl (by kernel_rfl) (by kernel_rfl) (by kernel_rfl) (fun _ _ _ h => h) (Or.inl ⟨by rfl, ?_⟩) (by assumption) ?_
  rotate_left
  · intro w' hSw
    try dsimp only at hSw
    go_simp
    try with_reducible rfl
  try simp only [Act.put, List.getElem_toArray, List.getElem_cons_zero, List.getElem_cons_succ, List.setIfInBounds_toArray, List.set_cons_zero, List.set_cons_succ]
  refine wpAnyH_take (i := 10) (v := ?_) rfl (by kernel_rfl) (by kernel_rfl) (by kernel_rfl) (fun _ _ _ h => h) (Or.inl ⟨by rfl, ?_⟩) (by assumption) ?_
  rotate_left
  · intro w' hSw
    try dsimp only at hSw
    go_simp
    try with_reducible rfl
  try simp only [Act.put, List.getElem_toArray, List.getElem_cons_zero, List.getElem_cons_succ, List.setIfInBounds_toArray, List.set_cons_zero, List.set_cons_succ]
  refine wpAnyH_take (i := 11) (v := ?_) rfl (by kernel_rfl) (by kernel_rfl) (by kernel_rfl) (fun _ _ _ h => h) (Or.inl ⟨by rfl, ?_⟩) (by assumption) ?_
  rotate_left
  · intro w' hSw
    try dsimp only at hSw
    go_simp
    try with_reducible rfl
  try simp only [Act.put, List.getElem_toArray, List.getElem_cons_zero, List.getElem_cons_succ, List.setIfInBounds_toArray, List.set_cons_zero, List.set_cons_succ]
  refine wpAnyH_take (i := 12) (v := ?_) rfl (by kernel_rfl) (by kernel_rfl) (by kernel_rfl) (fun _ _ _ h => h) (Or.inl ⟨by rfl, ?_⟩) (by assumption) ?_
  rotate_left
  · intro w' hSw
    try dsimp only at hSw
    go_simp
    try with_reducible rfl
  try simp only [Act.put, List.getElem_toArray, List.getElem_cons_zero, List.getElem_cons_succ, List.setIfInBounds_toArray, List.set_cons_zero, List.set_cons_succ]
  refine wpAnyH_take (i := 13) (v := ?_) rfl (by kernel_rfl) (by kernel_rfl) (by kernel_rfl) (fun _ _ _ h => h) (Or.inl ⟨by rfl, ?_⟩) (by assumption) ?_
  rotate_left
  · intro w' hSw
    try dsimp only at hSw
    go_simp
    try with_reducible rfl
  try simp only [Act.put, List.getElem_toArray, List.getElem_cons_zero, List.getElem_cons_succ, List.setIfInBounds_toArray, List.set_cons_zero, List.set_cons_succ]
  refine wpAnyH_take (i := 14) (v := ?_) rfl (by kernel_rfl) (by kernel_rfl) (by kernel_rfl) (fun _ _ _ h => h) (Or.inl ⟨by rfl, ?_⟩) (by assumption) ?_
  rotate_left
  · intro w' hSw
    try dsimp only at hSw
    go_simp
    try with_reducible rfl
  try simp only [Act.put, List.getElem_toArray, List.getElem_cons_zero, List.getElem_cons_succ, List.setIfInBounds_toArray, List.set_cons_zero, List.set_cons_succ]
  refine wpAnyH_take (i := 15) (v := ?_) rfl (by kernel_rfl) (by kernel_rfl) (by kernel_rfl) (fun _ _ _ h => h) (Or.inl ⟨by rfl, ?_⟩) (by assumption) ?_
  rotate_left
  · intro w' hSw
    try dsimp only at hSw
    go_simp
    try with_reducible rfl
  try simp only [Act.put, List.getElem_toArray, List.getElem_cons_zero, List.getElem_cons_succ, List.setIfInBounds_toArray, List.set_cons_zero, List.set_cons_succ]
  refine wpAnyH_take (i := 16) (v := ?_) rfl (by kernel_rfl) (by kernel_rfl) (by kernel_rfl) (fun _ _ _ h => h) (Or.inl ⟨by rfl, ?_⟩) (by assumption) ?_
  rotate_left
  · intro w' hSw
    try dsimp only at hSw
    go_simp
    try with_reducible rfl
  try simp only [Act.put, List.getElem_toArray, List.getElem_cons_zero, List.getElem_cons_succ, List.setIfInBounds_toArray, List.set_cons_zero, List.set_cons_succ]
  refine wpAnyH_take (i := 17) (v := ?_) rfl (by kernel_rfl) (by kernel_rfl) (by kernel_rfl) (fun _ _ _ h => h) (Or.inl ⟨by rfl, ?_⟩) (by assumption) ?_
  rotate_left
  · intro w' hSw
    try dsimp only at hSw
    go_simp
    try with_reducible rfl
  try simp only [Act.put, List.getElem_toArray, List.getElem_cons_zero, List.getElem_cons_succ, List.setIfInBounds_toArray, List.set_cons_zero, List.set_cons_succ]
  refine wpAnyH_take (i := 18) (v := ?_) rfl (by kernel_rfl) (by kernel_rfl) (by kernel_rfl) (fun _ _ _ h => h) (Or.inl ⟨by rfl, ?_⟩) (by assumption) ?_
  rotate_left
  · intro w' hSw
    try dsimp only at hSw
    go_simp
    try with_reducible rfl
  try simp only [Act.put, List.getElem_toArray, List.getElem_cons_zero, List.getElem_cons_succ, List.setIfInBounds_toArray, List.set_cons_zero, List.set_cons_succ]
  refine wpAnyH_take (i := 19) (v := ?_) rfl (by kernel_rfl) (by kernel_rfl) (by kernel_rfl) (fun _ _ _ h => h) (Or.inl ⟨by rfl, ?_⟩) (by assumption) ?_
  rotate_left
  · intro w' hSw
    try dsimp only at hSw
    go_simp
    try with_reducible rfl
  try simp only [Act.put, List.getElem_toArray, List.getElem_cons_zero, List.getElem_cons_succ, List.setIfInBounds_toArray, List.set_cons_zero, List.set_cons_succ]
  refine wpAnyH_take (i := 20) (v := ?_) rfl (by kernel_rfl) (by kernel_rfl) (by kernel_rfl) (fun _ _ _ h => h) (Or.inl ⟨by rfl, ?_⟩) (by assumption) ?_
  rotate_left
  · intro w' hSw
    try dsimp only at hSw
    go_simp
    try with_reducible rfl
  try simp only [Act.put, List.getElem_toArray, List.getElem_cons_zero, List.getElem_cons_succ, List.setIfInBounds_toArray, List.set_cons_zero, List.set_cons_succ]
  refine wpAnyH_take (i := 21) (v := ?_) rfl (by kernel_rfl) (by kernel_rfl) (by kernel_rfl) (fun _ _ _ h => h) (Or.inl ⟨by rfl, ?_⟩) (by assumption) ?_
  rotate_left
  · intro w' hSw
    try dsimp only at hSw
    go_simp
    try with_reducible rfl
  try simp only [Act.put, List.getElem_toArray, List.getElem_cons_zero, List.getElem_cons_succ, List.setIfInBounds_toArray, List.set_cons_zero, List.set_cons_succ]
  refine wpAnyH_take (i := 22) (v := ?_) rfl (by kernel_rfl) (by kernel_rfl) (by kernel_rfl) (fun _ _ _ h => h) (Or.inl ⟨by rfl, ?_⟩) (by assumption) ?_
  rotate_left
  · intro w' hSw
    try dsimp only at hSw
    go_simp
    try with_reducible rfl
  try simp only [Act.put, List.getElem_toArray, List.getElem_cons_zero, List.getElem_cons_succ, List.setIfInBounds_toArray, List.set_cons_zero, List.set_cons_succ]
  refine wpAnyH_take (i := 23) (v := ?_) rfl (by kernel_rfl) (by kernel_rfl) (by kernel_rfl) (fun _ _ _ h => h) (Or.inl ⟨by rfl, ?_⟩) (by assumption) ?_
  rotate_left
  · intro w' hSw
    try dsimp only at hSw
    go_simp
    try with_reducible rfl
  try simp only [Act.put, List.getElem_toArray, List.getElem_cons_zero, List.getElem_cons_succ, List.setIfInBounds_toArray, List.set_cons_zero, List.set_cons_succ]
  refine wpAnyH_take (i := 24) (v := ?_) rfl (by kernel_rfl) (by kernel_rfl) (by kernel_rfl) (fun _ _ _ h => h) (Or.inl ⟨by rfl, ?_⟩) (by assumption) ?_
  rotate_left
  · intro w' hSw
    try dsimp only at hSw
    go_simp
    try with_reducible rfl
  try simp only [Act.put, List.getElem_toArray, List.getElem_cons_zero, List.getElem_cons_succ, List.setIfInBounds_toArray, List.set_cons_zero, List.set_cons_succ]
  refine wpAnyH_take (i := 25) (v := ?_) rfl (by kernel_rfl) (by kernel_rfl) (by kernel_rfl) (fun _ _ _ h => h) (Or.inl ⟨by rfl, ?_⟩) (by assumption) ?_
  rotate_left
  · intro w' hSw
    try dsimp only at hSw
    go_simp
    try with_reducible rfl
  try simp only [Act.put, List.getElem_toArray, List.getElem_cons_zero, List.getElem_cons_succ, List.setIfInBounds_toArray, List.set_cons_zero, List.set_cons_succ]
  refine wpAnyH_take (i := 26) (v := ?_) rfl (by kernel_rfl) (by kernel_rfl) (by kernel_rfl) (fun _ _ _ h => h) (Or.inl ⟨by rfl, ?_⟩) (by assumption) ?_
  rotate_left
  · intro w' hSw
    try dsimp only at hSw
    go_simp
    try with_reducible rfl
  try simp only [Act.put, List.getElem_toArray, List.getElem_cons_zero, List.getElem_cons_succ, List.setIfInBounds_toArray, List.set_cons_zero, List.set_cons_succ]
  refine wpAnyH_take (i := 27) (v := ?_) rfl (by kernel_rfl) (by kernel_rfl) (by kernel_rfl) (fun _ _ _ h => h) (Or.inl ⟨by rfl, ?_⟩) (by assumption) ?_
  rotate_left
  · intro w' hSw
    try dsimp only at hSw
    go_simp
    try with_reducible rfl
  try simp only [Act.put, List.getElem_toArray, List.getElem_cons_zero, List.getElem_cons_succ, List.setIfInBounds_toArray, List.set_cons_zero, List.set_cons_succ]
  refine wpAnyH_take (i := 28) (v := ?_) rfl (by kernel_rfl) (by kernel_rfl) (by kernel_rfl) (fun _ _ _ h => h) (Or.inl ⟨by rfl, ?_⟩) (by assumption) ?_
  rotate_left
  · intro w' hSw
    try dsimp only at hSw
    go_simp
    try with_reducible rfl
  try simp only [Act.put, List.getElem_toArray, List.getElem_cons_zero, List.getElem_cons_succ, List.setIfInBounds_toArray, List.set_cons_zero, List.set_cons_succ]
  refine wpAnyH_take (i := 29) (v := ?_) rfl (by kernel_rfl) (by kernel_rfl) (by kernel_rfl) (fun _ _ _ h => h) (Or.inl ⟨by rfl, ?_⟩) (by assumption) ?_
  rotate_left
  · intro w' hSw
    try dsimp only at hSw
    go_simp
    try with_reducible rfl
  try simp only [Act.put, List.getElem_toArray, List.getElem_cons_zero, List.getElem_cons_succ, List.setIfInBounds_toArray, List.set_cons_zero, List.set_cons_succ]
  refine wpAnyH_take (i := 30) (v := ?_) rfl (by kernel_rfl) (by kernel_rfl) (by kernel_rfl) (fun _ _ _ h => h) (Or.inl ⟨by rfl, ?_⟩) (by assumption) ?_
  rotate_left
  · intro w' hSw
    try dsimp only at hSw
    go_simp
    try with_reducible rfl
  try simp only [Act.put, List.getElem_toArray, List.getElem_cons_zero, List.getElem_cons_succ, List.setIfInBounds_toArray, List.set_cons_zero, List.set_cons_succ]
  refine wpAnyH_take (i := 31) (v := ?_) rfl (by kernel_rfl) (by kernel_rfl) (by kernel_rfl) (fun _ _ _ h => h) (Or.inl ⟨by rfl, ?_⟩) (by assumption) ?_
  rotate_left
  · intro w' hSw
    try dsimp only at hSw
    go_simp
    try with_reducible rfl
  try simp only [Act.put, List.getElem_toArray, List.getElem_cons_zero, List.getElem_cons_succ, List.setIfInBounds_toArray, List.set_cons_zero, List.set_cons_succ]
  refine wpAnyH_take (i := 32) (v := ?_) rfl (by kernel_rfl) (by kernel_rfl) (by kernel_rfl) (fun _ _ _ h => h) (Or.inl ⟨by rfl, ?_⟩) (by assumption) ?_
  rotate_left
  · intro w' hSw
    try dsimp only at hSw
    go_simp
    try with_reducible rfl
  try simp only [Act.put, List.getElem_toArray, List.getElem_cons_zero, List.getElem_cons_succ, List.setIfInBounds_toArray, List.set_cons_zero, List.set_cons_succ]
  refine wpAnyH_take (i := 33) (v := ?_) rfl (by kernel_rfl) (by kernel_rfl) (by kernel_rfl) (fun _ _ _ h => h) (Or.inl ⟨by rfl, ?_⟩) (by assumption) ?_
  rotate_left
  · intro w' hSw
    try dsimp only at hSw
    go_simp
    try with_reducible rfl
  try simp only [Act.put, List.getElem_toArray, List.getElem_cons_zero, List.getElem_cons_succ, List.setIfInBounds_toArray, List.set_cons_zero, List.set_cons_succ]
  refine wpAnyH_take (i := 36) (v := ?_) rfl (by kernel_rfl) (by kernel_rfl) (by kernel_rfl) (fun _ _ _ h => h) (Or.inl ⟨by rfl, ?_⟩) (by assumption) ?_
  rotate_left
  · intro w' hSw
    try dsimp only at hSw
    go_simp
    try with_reducible rfl
  try simp only [Act.put, List.getElem_toArray, List.getElem_cons_zero, List.getElem_cons_succ, List.setIfInBounds_toArray, List.set_cons_zero, List.set_cons_succ]
  refine wpAnyH_take (i := 37) (v := ?_) rfl (by kernel_rfl) (by kernel_rfl) (by kernel_rfl) (fun _ _ _ h => h) (Or.inl ⟨by rfl, ?_⟩) (by assumption) ?_
  rotate_left
  · intro w' hSw
    try dsimp only at hSw
    go_simp
    try with_reducible rfl
  try simp only [Act.put, List.getElem_toArray, List.getElem_cons_zero, List.getElem_cons_succ, List.setIfInBounds_toArray, List.set_cons_zero, List.set_cons_succ]
  refine wpAnyH_take (i := 38) (v := ?_) rfl (by kernel_rfl) (by kernel_rfl) (by kernel_rfl) (fun _ _ _ h => h) (Or.inl ⟨by rfl, ?_⟩) (by assumption) ?_
  rotate_left
  · intro w' hSw
    try dsimp only at hSw
    go_simp
    try with_reducible rfl
  try simp only [Act.put, List.getElem_toArray, List.getElem_cons_zero, List.getElem_cons_succ, List.setIfInBounds_toArray, List.set_cons_zero, List.set_cons_succ]
  refine wpAnyH_take (i := 42) (v := ?_) rfl (by kernel_rfl) (by kernel_rfl) (by kernel_rfl) (fun _ _ _ h => h) (Or.inl ⟨by rfl, ?_⟩) (by assumption) ?_
  rotate_left
  · intro w' hSw
    try dsimp only at hSw
    go_simp
    try with_reducible rfl
  try simp only [Act.put, List.getElem_toArray, List.getElem_cons_zero, List.getElem_cons_succ, List.setIfInBounds_toArray, List.set_cons_zero, List.set_cons_succ]
  refine wpAnyH_take (i := 43) (v := ?_) rfl (by kernel_rfl) (by kernel_rfl) (by kernel_rfl) (fun _ _ _ h => h) (Or.inl ⟨by rfl, ?_⟩) (by assumption) ?_
  rotate_left
  · intro w' hSw
    try dsimp only at hSw
    go_simp
    try with_reducible rfl
  try simp only [Act.put, List.getElem_toArray, List.getElem_cons_zero, List.getElem_cons_succ, List.setIfInBounds_toArray, List.set_cons_zero, List.set_cons_succ]
  refine wpAnyH_take (i := 44) (v := ?_) rfl (by kernel_rfl) (by kernel_rfl) (by kernel_rfl) (fun _ _ _ h => h) (Or.inl ⟨by rfl, ?_⟩) (by assumption) ?_
  rotate_left
  · intro w' hSw
    try dsimp only at hSw
    go_simp
    try with_reducible rfl
  try simp only [Act.put, List.getElem_toArray, List.getElem_cons_zero, List.getElem_cons_succ, List.setIfInBounds_toArray, List.set_cons_zero, List.set_cons_succ]
  refine wpAnyH_take (i := 47) (v := ?_) rfl (by kernel_rfl) (by kernel_rfl) (by kernel_rfl) (fun _ _ _ h => h) (Or.inl ⟨by rfl, ?_⟩) (by assumption) ?_
  rotate_left
  · intro w' hSw
    try dsimp only at hSw
    go_simp
    try with_reducible rfl
  try simp only [Act.put, List.getElem_toArray, List.getElem_cons_zero, List.getElem_cons_succ, List.setIfInBounds_toArray, List.set_cons_zero, List.set_cons_succ]
  refine wpAnyH_take (i := 48) (v := ?_) rfl (by kernel_rfl) (by kernel_rfl) (by kernel_rfl) (fun _ _ _ h => h) (Or.inl ⟨by rfl, ?_⟩) (by assumption) ?_
  rotate_left
  · intro w' hSw
    try dsimp only at hSw
    go_simp
    try with_reducible rfl
  try simp only [Act.put, List.getElem_toArray, List.getElem_cons_zero, List.getElem_cons_succ, List.setIfInBounds_toArray, List.set_cons_zero, List.set_cons_succ]
  refine wpAnyH_take (i := 49) (v := ?_) rfl (by kernel_rfl) (by kernel_rfl) (by kernel_rfl) (fun _ _ _ h => h) (Or.inl ⟨by rfl, ?_⟩) (by assumption) ?_
  rotate_left
  · intro w' hSw
    try dsimp only at hSw
    go_simp
    try with_reducible rfl
  try simp only [Act.put, List.getElem_toArray, List.getElem_cons_zero, List.getElem_cons_succ, List.setIfInBounds_toArray, List.set_cons_zero, List.set_cons_succ]
  refine wpAnyH_take (i := 52) (v := ?_) rfl (by kernel_rfl) (by kernel_rfl) (by kernel_rfl) (fun _ _ _ h => h) (Or.inl ⟨by rfl, ?_⟩) (by assumption) ?_
  rotate_left
  · intro w' hSw
    try dsimp only at hSw
    go_simp
    try with_reducible rfl
  try simp only [Act.put, List.getElem_toArray, List.getElem_cons_zero, List.getElem_cons_succ, List.setIfInBounds_toArray, List.set_cons_zero, List.set_cons_succ]
  refine wpAnyH_ready (rs := [34]) (by kernel_rfl) (by simp) ?_
  refine AllReadyH.cons rfl (fun K hK => ?_) AllReadyH.nil
  go_simp
  try rw [if_pos (by decide)]
  (go_at_call 31; refine (CN _).mono ?_; rintro e W2 ⟨rfl, B⟩; have HX := Hid.mk ((B.block w.heap.size (lt_of HX.out)).trans HX.out); have HY := Hid.mk ((B.block w2.heap.size (lt_of HY.out)).trans HY.out); have HB := Hid.mk (HB.out.trans (B.mono HB.out.size)); clear B)
  try go_wp2_with fail
  refine hK.out _ _ ⟨HB.out, hd4 HX.out 2, HY.out⟩ (fun hHeld => ?_)
  clear hK K
  try simp only [Act.put, List.getElem_toArray, List.getElem_cons_zero, List.getElem_cons_succ, List.setIfInBounds_toArray, List.set_cons_zero, List.set_cons_succ]
  refine wpAnyH_take (i := 35) (v := ?_) rfl (by kernel_rfl) (by kernel_rfl) (by kernel_rfl) (fun _ _ _ h => h) (Or.inl ⟨by rfl, ?_⟩) (by assumption) ?_
  rotate_left
  · intro w' hSw
    try dsimp only at hSw
    go_simp
    try with_reducible rfl
  try simp only [Act.put, List.getElem_toArray, List.getElem_cons_zero, List.getElem_cons_succ, List.setIfInBounds_toArray, List.set_cons_zero, List.set_cons_succ]
  refine wpAnyH_ready (rs := [39]) (by kernel_rfl) (by simp) ?_
  refine AllReadyH.cons rfl (fun K hK => ?_) AllReadyH.nil
  go_simp
  try rw [if_pos (by decide)]
  (go_at_call 14; refine (OE _).mono ?_; rintro e W3 ⟨rfl, B⟩; have HX := Hid.mk ((B.block w.heap.size (lt_of HX.out)).trans HX.out); have HY := Hid.mk ((B.block w2.heap.size (lt_of HY.out)).trans HY.out); have HB := Hid.mk (HB.out.trans (B.mono HB.out.size)); clear B)
  try go_wp2_with fail
  refine hK.out _ _ ⟨HB.out, hd4 HX.out 2, HY.out⟩ (fun hHeld => ?_)
  clear hK K
  try simp only [Act.put, List.getElem_toArray, List.getElem_cons_zero, List.getElem_cons_succ, List.setIfInBounds_toArray, List.set_cons_zero, List.set_cons_succ]
  refine wpAnyH_take (i := 40) (v := ?_) rfl (by kernel_rfl) (by kernel_rfl) (by kernel_rfl) (fun _ _ _ h => h) (Or.inl ⟨by rfl, ?_⟩) (by assumption) ?_
  rotate_left
  · intro w' hSw
    try dsimp only at hSw
    go_simp
    try with_reducible rfl
  try simp only [Act.put, List.getElem_toArray, List.getElem_cons_zero, List.getElem_cons_succ, List.setIfInBounds_toArray, List.set_cons_zero, List.set_cons_succ]
  refine wpAnyH_take (i := 41) (v := ?_) rfl (by kernel_rfl) (by kernel_rfl) (by kernel_rfl) (fun _ _ _ h => h) (Or.inl ⟨by rfl, ?_⟩) (by assumption) ?_
  rotate_left
  · intro w' hSw
    try dsimp only at hSw
    go_simp
    try with_reducible rfl
  try simp only [Act.put, List.getElem_toArray, List.getElem_cons_zero, List.getElem_cons_succ, List.setIfInBounds_toArray, List.set_cons_zero, List.set_cons_succ]
  refine wpAnyH_ready (rs := [45]) (by kernel_rfl) (by simp) ?_
  refine AllReadyH.cons rfl (fun K hK => ?_) AllReadyH.nil
  go_simp
  try rw [if_pos (by decide)]
  (go_at_call 16; refine (UN _).mono ?_; rintro e W4 ⟨rfl, B⟩; have HX := Hid.mk ((B.block w.heap.size (lt_of HX.out)).trans HX.out); have HY := Hid.mk ((B.block w2.heap.size (lt_of HY.out)).trans HY.out); have HB := Hid.mk (HB.out.trans (B.mono HB.out.size)); clear B)
  try go_wp2_with fail
  refine hK.out _ _ ⟨HB.out, hd4 HX.out 2, HY.out⟩ (fun hHeld => ?_)
  clear hK K
  try simp only [Act.put, List.getElem_toArray, List.getElem_cons_zero, List.getElem_cons_succ, List.setIfInBounds_toArray, List.set_cons_zero, List.set_cons_succ]
  refine wpAnyH_take (i := 46) (v := ?_) rfl (by kernel_rfl) (by kernel_rfl) (by kernel_rfl) (fun _ _ _ h => h) (Or.inl ⟨by rfl, ?_⟩) (by assumption) ?_
  rotate_left
  · intro w' hSw
    try dsimp only at hSw
    go_simp
    try with_reducible rfl
  try simp only [Act.put, List.getElem_toArray, List.getElem_cons_zero, List.getElem_cons_succ, List.setIfInBounds_toArray, List.set_cons_zero, List.set_cons_succ]
  refine wpAnyH_ready (rs := [50]) (by kernel_rfl) (by simp) ?_
  refine AllReadyH.cons rfl (fun K hK => ?_) AllReadyH.nil
  go_simp
  try rw [if_pos (by decide)]
  (go_at_call 32; refine (BN _).mono ?_; rintro e W5 ⟨rfl, B⟩; have HX := Hid.mk ((B.block w.heap.size (lt_of HX.out)).trans HX.out); have HY := Hid.mk ((B.block w2.heap.size (lt_of HY.out)).trans HY.out); have HB := Hid.mk (HB.out.trans (B.mono HB.out.size)); clear B)
  try go_wp2_with fail
  refine hK.out _ _ ⟨HB.out, hd4 HX.out 2, HY.out⟩ (fun hHeld => ?_)
  clear hK K
  try simp only [Act.put, List.getElem_toArray, List.getElem_cons_zero, List.getElem_cons_succ, List.setIfInBounds_toArray, List.set_cons_zero, List.set_cons_succ]
  refine wpAnyH_take (i := 51) (v := ?_) rfl (by kernel_rfl) (by kernel_rfl) (by kernel_rfl) (fun _ _ _ h => h) (Or.inl ⟨by rfl, ?_⟩) (by assumption) ?_
  rotate_left
  · intro w' hSw
    try dsimp only at hSw
    go_simp
    try with_reducible rfl
  try simp only [Act.put, List.getElem_toArray, List.getElem_cons_zero, List.getElem_cons_succ, List.setIfInBounds_toArray, List.set_cons_zero, List.set_cons_succ]
  refine wpAnyH_ready (rs := [53]) (by kernel_rfl) (by simp) ?_
  refine AllReadyH.cons rfl (fun K hK => ?_) AllReadyH.nil
  go_simp
  try rw [if_pos (by decide)]
  (go_at_call 33; refine (LF _).mono ?_; rintro e W6 ⟨rfl, B⟩; have HX := Hid.mk ((B.block w.heap.size (lt_of HX.out)).trans HX.out); have HY := Hid.mk ((B.block w2.heap.size (lt_of HY.out)).trans HY.out); have HB := Hid.mk (HB.out.trans (B.mono HB.out.size)); clear B)
  try go_wp2_with fail
  refine hK.out _ _ ⟨HB.out, hd4 HX.out 2, HY.out⟩ (fun hHeld => ?_)
  clear hK K
  try simp only [Act.put, List.getElem_toArray, List.getElem_cons_zero, List.getElem_cons_succ, List.setIfInBounds_toArray, List.set_cons_zero, List.set_cons_succ]
  refine wpAnyH_take (i := 54) (v := ?_) rfl (by kernel_rfl) (by kernel_rfl) (by kernel_rfl) (fun _ _ _ h => h) (Or.inl ⟨by rfl, ?_⟩) (by assumption) ?_
  rotate_left
  · intro w' hSw
    try dsimp only at hSw
    go_simp
    try with_reducible rfl
  try simp only [Act.put, List.getElem_toArray, List.getElem_cons_zero, List.getElem_cons_succ, List.setIfInBounds_toArray, List.set_cons_zero, List.set_cons_succ]
  refine wpAnyH_take (i := 55) (v := ?_) rfl (by kernel_rfl) (by kernel_rfl) (by kernel_rfl) (fun _ _ _ h => h) (Or.inl ⟨by rfl, ?_⟩) (by assumption) ?_
  rotate_left
  · intro w' hSw
    try dsimp only at hSw
    go_simp
    try with_reducible rfl
  try simp only [Act.put, List.getElem_toArray, List.getElem_cons_zero, List.getElem_cons_succ, List.setIfInBounds_toArray, List.set_cons_zero, List.set_cons_succ]
  refine wpAnyH_take (i := 56) (v := ?_) rfl (by kernel_rfl) (by kernel_rfl) (by kernel_rfl) (fun _ _ _ h => h) (Or.inl ⟨by rfl, ?_⟩) (by assumption) ?_
  rotate_left
  · intro w' hSw
    try dsimp only at hSw
    go_simp
    try with_reducible rfl
  try simp only [Act.put, List.getElem_toArray, List.getElem_cons_zero, List.getElem_cons_succ, List.setIfInBounds_toArray, List.set_cons_zero, List.set_cons_succ]
  refine wpAnyH_take (i := 57) (v := ?_) rfl (by kernel_rfl) (by kernel_rfl) (by kernel_rfl) (fun _ _ _ h => h) (Or.inl ⟨by rfl, ?_⟩) (by assumption) ?_
  rotate_left
  · intro w' hSw
    try dsimp only at hSw
    go_simp
    try with_reducible rfl
  try simp only [Act.put, List.getElem_toArray, List.getElem_cons_zero, List.getElem_cons_succ, List.setIfInBounds_toArray, List.set_cons_zero, List.set_cons_succ]
  refine wpAnyH_done (by kernel_rfl) ?_ _
  try go_wp2
  go_ret
  exact ⟨rfl, HB.out⟩
end Go.Proofs.YtbdoekffadmejaaGreatDoor

namespace Go.Proofs.YtbdoekffadmejaaGreatDoor.heapNone
open Go.ChangeShapes Go.WideShapes Go.ChangeAt Go.RowKit
open Go.ChangeMaps (open_string)
set_option linter.unusedVariables false
set_option linter.unusedSimpArgs false



set_option maxRecDepth 100000 in
/-- What the walk gives, for every argument and every world that holds the table. -/
theorem contract (H : Type) (enc : TypeId × Value → H) (W : World) (base : Nat) (args : Array Value) (ds gs : List (DataW H)) (before : List MemPlace)
    (hval : ∀ (j : Nat) t v, Tryz.f6.params[j]? = some t → args[j]? = some v → Value.okWide Tryz.prog W .any base t v)
    (hW : DataW.Whole enc Tryz.prog Tryz.f6.params.toList Rows.heapNoneSpec.vars false W args.toList ds gs before) (hL : laidMetH Tryz.prog Rows.heapNoneRow.laid W) :
    Calls Tryz.prog 6 args W fun e W' => ∃ v, e = .returned v ∧ Rows.heapNoneSpec.post enc Tryz.prog Tryz.f6 false true false false W args v W' := by
  have hW' := hW
  obtain ⟨p, q, hA0, hV, rfl, hfz, hnd⟩ := hW
  have hA : DataW.TrodAll enc Tryz.prog W 0 (fun _ => true) true Tryz.f6.params.toList args.toList ds p := hA0
  rw [Tryz.params6] at hA hval
  obtain ⟨v0, vs0, d0, ds0, p0, q0, hargs, rfl, rfl, h0, r0⟩ := trodAll_cons hA
  obtain ⟨rfl, rfl, rfl⟩ := trodAll_nil r0
  obtain rfl : args = #[v0] := by cases args; simp_all
  obtain ⟨rfl, rfl⟩ := trodVars_none hV
  have t0 := h0
  have lt0 : ∀ x ∈ p0, x.block < W.heap.size := by obtain ⟨m, hm⟩ := t0; exact DataW.trod_lt m _ _ _ hm
  obtain ⟨k0, a0, i0, q00, x10, x20, x30, x40, ga0, n10, c10, gb0, n20, c20, rfl⟩ := open_act h0
  clear hA0
  refine (none_walk k0 a0 i0 q00 x10 x20 x30 x40 ga0 n10 c10 gb0 n20 c20 W (LaidS.table_of hL) (LaidW.spans_of hL)).mono fun e W' ⟨he, bel⟩ => ?_
  subst he
  exact ⟨_, rfl, _, _, _, [], _, [], hW', trodAll_mk1 (shut_bool Tryz.underlying4 _), (trodAll_cons_mk (Below.trod laidOut (by kernel_rfl) (of_decide_eq_true (by kernel_rfl)) t0 bel lt0) trodAll_mk0), rfl, bel.frame _, fun h => by cases h⟩

theorem laid_met (os : Os) : laidMet Tryz.prog Rows.heapNoneRow.laid ((laidWorld os).forCall (fun _ _ => 0) ⟨#[], #[.agg #[.int .i64 0, .int .i64 0, .int .i64 0, .int .i64 0, .int .i64 0, .int .i64 0, .int .i64 0, .int .i64 0, .slice none 0 0, .slice none 0 0]], []⟩).memory :=
  laidMet_of_run' 8 (by kernel_rfl) (by kernel_rfl)
theorem reads (os : Os) {H : Type} (enc : TypeId × Value → H) : ∃ places, DataW.whole enc Tryz.prog ((laidWorld os).forCall (fun _ _ => 0) ⟨#[], #[.agg #[.int .i64 0, .int .i64 0, .int .i64 0, .int .i64 0, .int .i64 0, .int .i64 0, .int .i64 0, .int .i64 0, .slice none 0 0, .slice none 0 0]], []⟩).memory Tryz.f6.params.toList Rows.heapNoneSpec.vars false #[.agg #[.int .i64 0, .int .i64 0, .int .i64 0, .int .i64 0, .int .i64 0, .int .i64 0, .int .i64 0, .int .i64 0, .slice none 0 0, .slice none 0 0]].toList 8 = some ([.agg [.lit (.int .i64 0), .lit (.int .i64 0), .lit (.int .i64 0), .lit (.int .i64 0), .agg [.lit (.int .i64 0), .lit (.int .i64 0), .lit (.int .i64 0), .lit (.int .i64 0)], .nil, .nil]], [], places) :=
  ⟨[], by kernel_rfl⟩

set_option maxRecDepth 100000 in
theorem lifted (os : Os) (started : os.Started) (H : Type) (enc : TypeId × Value → H) (F : Stop.Interp) :
    ReturnsInHanded {} Tryz.checked os 6 .any ((OpenSpec.ofChange Rows.heapNoneSpec).preRow enc Tryz.prog Tryz.f6 Rows.heapNoneRow.domain false Rows.heapNoneRow.laid) (((OpenSpec.ofChange Rows.heapNoneSpec).at F).post enc Tryz.prog Tryz.f6 false true false false) := by
  obtain ⟨places, hx⟩ := reads os enc
  refine returnsInHanded_of_row (C := Tryz.checked) (s := OpenSpec.ofChange Rows.heapNoneSpec) own started (by kernel_rfl) Tryz.func6
    (witness_row_at (enc := enc) (C := Tryz.checked) false (laidWorld os) #[.agg #[.int .i64 0, .int .i64 0, .int .i64 0, .int .i64 0, .int .i64 0, .int .i64 0, .int .i64 0, .int .i64 0, .slice none 0 0, .slice none 0 0]] rfl (by kernel_rfl) (by kernel_rfl) (by kernel_rfl)
      (OpenSpec.preRow_of_cond 8 hx (by kernel_rfl) (fun k hk => by cases hk) (by kernel_rfl) (laid_met os))) ?_
  intro W base args ds gs before hval hW _ hcond _ hL _ _
  exact contract H enc W base args ds gs before hval hW hL

theorem said : Rows.HeapNoneSaid :=
  OpenClaim.holds_of_cond 6 Tryz.f6 rfl rfl rfl rfl rfl rfl rfl ⟨rfl, rfl, rfl, rfl, rfl⟩ rfl rfl rfl rfl rfl (by kernel_rfl) Tryz.func6 (by kernel_rfl)
    (of_decide_eq_true (by kernel_rfl)) (by unfold Func.isWrapper; first | (rw [if_pos (by decide +kernel)]; kernel_rfl) | (rw [if_neg (by decide +kernel)]; exact ⟨rfl, rfl⟩))
    (fun os started H enc _ F => by rw [OpenClaim.pre_eq_preRow]; exact lifted os started H enc F)

/-- No parameter wants a stand-in; the program's own looks are off: what the card asks. -/
theorem plain (f : FuncId) (fn : Func) (hf : Tryz.pinned.checked.prog.funcNamed "midden/middenlaw18.HeapNone" = some f) (hfn : Tryz.pinned.checked.prog.funcs[f]? = some fn) :
    false = Tryz.pinned.checked.prog.looks [] ∧ ∀ (j : Nat) t, fn.params[j]? = some t → Tryz.pinned.checked.prog.wantsStandIn t = false := by
  obtain rfl : f = 6 := Option.some.inj ((show Tryz.prog.funcNamed "midden/middenlaw18.HeapNone" = some 6 by kernel_rfl).symm.trans hf) |>.symm
  obtain rfl : fn = Tryz.f6 := (Option.some.inj (Tryz.func6.symm.trans hfn)).symm
  refine ⟨by kernel_rfl, fun j t ht => ?_⟩
  rw [Tryz.params6] at ht
  have hm : t ∈ [34] := by simpa using Array.mem_of_getElem? ht
  have hall : ([34].all fun u => !Tryz.prog.wantsStandIn u) = true := by kernel_rfl
  exact (show Tryz.prog.wantsStandIn t = false by simpa using List.all_eq_true.1 hall t hm)

theorem card : Rows.HeapNoneCardSaid :=
  Claim7.holds_tied_plain_at .later [] _ _ _ _ said (fun _ h => by cases h) (by kernel_rfl) (fun _ h => by cases h) heapNone_row_tie rfl ⟨rfl, rfl⟩ (by kernel_rfl) rfl plain (by kernel_rfl)
end Go.Proofs.YtbdoekffadmejaaGreatDoor.heapNone

namespace Go.Proofs.YtbdoekffadmejaaGreatDoor
theorem heapNone_card : Rows.HeapNoneCardSaid := heapNone.card
#print axioms heapNone_card
end Go.Proofs.YtbdoekffadmejaaGreatDoor
