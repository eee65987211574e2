/- Package heap: Begin. -/
import Derived.Test.YtbdoekffadmejaaGreatDoorHmo
namespace Go.Proofs.YtbdoekffadmejaaGreatDoor
open Go.RowKit
open Go.Maps (Keyed int_keyed)
set_option linter.unusedVariables false
set_option linter.unusedSimpArgs false
set_option maxRecDepth 100000

def Wk.none : Wk := ⟨[], fun _ => .none, [], 0, fun _ => []⟩
/-- The generations below j are set aside. -/
def begS (H : Hs) : Nat → Hs × Wk
  | 0 => (H, Wk.none)
  | j + 1 => ((begS H j).1.asd (begS H j).2 j, (begS H j).2.asd (begS H j).1 j)
theorem begS_c (H : Hs) : ∀ j, (begS H j).1.c = H.c
  | 0 => rfl
  | j + 1 => begS_c H j
theorem begS_sp (H : Hs) : ∀ j g, j ≤ g → (begS H j).1.sp g = H.sp g
  | 0, _, _ => rfl
  | j + 1, g, hg => by
    have := begS_sp H j g (by omega)
    funext s
    show (if g = j then _ else (begS H j).1.sp g s) = _
    rw [if_neg (by omega), this]
section
variable {w w' : World} {γ γ' : Nat → Tg} {h : Nat} {k k' : Value} {A : Ad} {H : Hs}
/-- The collection's box turns. -/
theorem Hm.setk (q : Hm w γ h k A H) (F : Fr (fun t => t = .hb) w w' γ γ') (b : w'.heap[h]? = some (.cells (hcells H.c (pt A.p) (pt A.a) A.ov (.map (some A.wm)) (pt A.l) k' false) 96 (0, 0))) : Hm w' γ' h k' A H := {
  box := b
  tag := F.tg q.lt q.tag
  gl := q.gl.fr F nofun
  ok := q.ok
  pool := q.pool.fr F nofun nofun
  good := q.good
  zero := q.zero
  ar := q.ar.fr F nofun nofun
  len := q.len
  word := q.word
  row := q.row.fr F nofun nofun
  sps := fun g s hg hs => (q.sps g s hg hs).fr F nofun nofun nofun
  inj := q.inj
  fit := q.fit
  wh := q.wh.fr F (by rw [q.whT]; nofun)
  whT := F.tg q.wh.lt q.whT
  li := q.li.fr F nofun nofun nofun
  dom := q.dom }
end
section
variable {w : World} {γ : Nat → Tg} {h : Nat} {A : Ad} {H : Hs}
theorem begin_no (q : Hm w γ h (.pointer none) A H) (g : Int) (hg : oneB g H.c.g = false) : Calls Tryz.prog 28 #[pt h, .int .i64 g] w fun e w' => e = .returned (.int .i64 2) ∧ w' = w := by
  have RS := (sg_rest q).rest
  have c7 := q.co
  obtain ⟨ga, k0, c0, e0⟩ := row_sl q.row.out
  have O := fun W => one_any W g H.c.g
  rw [hg] at O
  obtain ⟨ob, cap, e1, _, _⟩ := row_form q.row.out (by have := q.ok.g; omega)
  rw [e1] at c7
  clear q hg
  generalize H.c.g = m at *
  go_enter Tryz.func28, Tryz.ntmps28
  go_wp2_with (first
    | (go_at_call 58; refine RS.mono ?_; rintro e w1 ⟨rfl, hw⟩; rw [hw]; clear hw RS)
    | (go_at_call 51; refine (O _).mono ?_; rintro e w1 ⟨rfl, hw⟩; rw [hw]; clear hw))
  go_ret
  exact ⟨rfl, rfl⟩
/-- A new collection. -/
theorem work_new {w1 : World} {l lb : Nat} {lm : Nat → Nat} (q : Hm w γ h (.pointer none) A H) (L : Rm.Ls w.heap.size w1 l lb H.c.g lm (fun _ => [])) (B : Below w.heap.size w w1) :
    ∃ γ', Fr hTn w (((w1.alloc (.map #[] 0)).alloc (.cells #[.slice none 0 0, .map (some w1.heap.size), .slice none 0 0, .int .i64 0, pt l] 115)).setCell ⟨h, 10, none⟩ (pt (w1.heap.size + 1))) γ γ' ∧
      Wm (((w1.alloc (.map #[] 0)).alloc (.cells #[.slice none 0 0, .map (some w1.heap.size), .slice none 0 0, .int .i64 0, pt l] 115)).setCell ⟨h, 10, none⟩ (pt (w1.heap.size + 1))) γ' h A H ⟨w1.heap.size + 1, .slice none 0 0, [], w1.heap.size, 0, .slice none 0 0, l⟩ Wk.none := by
  have lo := L.lo
  have ne1 : l ≠ lb := fun e => by
    have := L.box
    rw [e, L.sets] at this
    simp only [Option.some.injEq, Obj.cells.injEq] at this
    exact absurd this.2.1 (by decide)
  have nem : ∀ i, i < H.c.g → lm i ≠ l ∧ lm i ≠ lb := fun i hi => ⟨fun e => (by obtain ⟨es, c', hb⟩ := (L.map i hi).block; rw [e, L.box] at hb; cases hb), fun e => (by obtain ⟨es, c', hb⟩ := (L.map i hi).block; rw [e, L.sets] at hb; cases hb)⟩
  let γ' : Nat → Tg := fun k => if k < w.heap.size then γ k else if k = l then .lb true else if k = lb then .lr true else if k = w1.heap.size then .ka else if k = w1.heap.size + 1 then .kb else .lm true
  have o0 : ∀ k, k < w.heap.size → γ' k = γ k := fun k hk => if_pos hk
  have ll := lt_of L.box
  have lbl := lt_of L.sets
  have lml := fun i hi => (L.map i hi).lt
  have hl := q.lt
  have hsz := B.size
  have B1 := (B.alloc B.size (.map #[] 0)).alloc (by simp; omega) (.cells #[.slice none 0 0, .map (some w1.heap.size), .slice none 0 0, .int .i64 0, pt l] 115)
  generalize hW : (w1.alloc (.map #[] 0)).alloc (.cells #[.slice none 0 0, .map (some w1.heap.size), .slice none 0 0, .int .i64 0, pt l] 115) = W at *
  have wk : ∀ k, k < w1.heap.size → W.heap[k]? = w1.heap[k]? := fun k hk => by rw [← hW]; exact (Below.heap_alloc _ _ _ (by simp; omega)).trans (Below.heap_alloc _ _ _ hk)
  have wa : Bp.VM 3 W w1.heap.size 0 (fun _ => none) := by rw [← hW]; exact (Bp.VM.made 3 w1).of_block (Below.heap_alloc _ _ _ (by simp))
  have wb : W.heap[w1.heap.size + 1]? = some (.cells #[.slice none 0 0, .map (some w1.heap.size), .slice none 0 0, .int .i64 0, pt l] 115 (0, 0)) := by
    rw [← hW]
    have t := heap_alloc_new (w1.alloc (Obj.map #[] 0)) (.cells #[.slice none 0 0, .map (some w1.heap.size), .slice none 0 0, .int .i64 0, pt l] 115)
    rw [World.size_alloc] at t
    exact t
  have fs : ∀ k, k ≠ h → (W.setCell ⟨h, 10, none⟩ (pt (w1.heap.size + 1))).heap[k]? = W.heap[k]? := fun k hk => Below.heap_setCell _ _ _ _ hk
  have t1 : γ' (w1.heap.size + 1) = .kb := by
    show (if w1.heap.size + 1 < w.heap.size then _ else _) = _
    rw [if_neg (by omega), if_neg (by omega), if_neg (by omega), if_neg (by omega), if_pos rfl]
  have t2 : γ' w1.heap.size = .ka := by
    show (if w1.heap.size < w.heap.size then _ else _) = _
    rw [if_neg (by omega), if_neg (by omega), if_neg (by omega), if_pos rfl]
  have t3 : γ' l = .lb true := by
    show (if l < w.heap.size then _ else _) = _
    rw [if_neg (by omega), if_pos rfl]
  have t4 : γ' lb = .lr true := by
    show (if lb < w.heap.size then _ else _) = _
    rw [if_neg (by omega), if_neg (fun e => ne1 e.symm), if_pos rfl]
  have t5 : ∀ i, i < H.c.g → γ' (lm i) = .lm true := fun i hi => by
    have n1 := nem i hi
    have n2 := lo.2.2 i hi
    have n3 := lml i hi
    show (if lm i < w.heap.size then _ else _) = _
    rw [if_neg (by omega), if_neg n1.1, if_neg n1.2, if_neg (by omega), if_neg (by omega)]
  have G : W.grownBy (W.setCell ⟨h, 10, none⟩ (pt (w1.heap.size + 1))) (some h) := grown_cell _ _ _ _
  have F : Fr (fun t => t = .hb) w (W.setCell ⟨h, 10, none⟩ (pt (w1.heap.size + 1))) γ γ' := ((Fr.later _ γ B1).trans (Fr.one G q.tag)).retag o0
  have bx : (W.setCell ⟨h, 10, none⟩ (pt (w1.heap.size + 1))).heap[h]? = some (.cells (hcells H.c (pt A.p) (pt A.a) A.ov (.map (some A.wm)) (pt A.l) (pt (w1.heap.size + 1)) false) 96 (0, 0)) := box_k ((B1.block h hl).trans q.box) _
  refine ⟨γ', F.mono (fun t e => by subst e; rintro (e | ⟨n, e⟩) <;> cases e), q.setk F bx, {
    box := (fs (w1.heap.size + 1) (by omega)).trans wb
    tag := t1
    row := World.ownsRow_nil _ _ _ _
    rowT := fun k e => by cases e
    len := rfl
    sps := fun i hi => absurd hi (Nat.not_lt_zero _)
    nd := List.nodup_nil
    fit := fun S hS => by cases hS
    av := ⟨_, wa.of_block (fs w1.heap.size (by omega)), fun x => rfl⟩
    avT := t2
    fr := World.ownsRow_nil _ _ _ _
    frT := fun k e => by cases e
    told := Nat.le_refl _
    late := ⟨lb, lm, ?_, t3, t4, t5⟩
    dom := fun x g s e => by cases e }, fun g s _ _ e => by cases e⟩
  have e := Ls.same L ((fs l (by omega)).trans (wk l ll)) ((fs lb (by omega)).trans (wk lb lbl)) (fun i hi => (fs (lm i) (by have := lo.2.2 i hi; omega)).trans (wk _ (lml i hi)))
  exact ⟨e.box, e.sets, e.map, e.gd, e.inj, e.le, ⟨Nat.zero_le _, Nat.zero_le _, fun _ _ => Nat.zero_le _⟩⟩
set_option maxHeartbeats 1000000 in
theorem begin_yes (q : Hm w γ h (.pointer none) A H) (g : Nat) (hg : g < H.c.g) (hl : ∀ g' s, g' ≤ g → s < H.c.n g' → (H.sp g' s).l.length ≤ 1000) (hpos : ∀ g' s, g' ≤ g → s < H.c.n g' → ∀ x ∈ (H.sp g' s).l, 1 ≤ x.1 ∧ x.1 < H.c.b * 64) :
    Calls Tryz.prog 28 #[pt h, .int .i64 g] w fun e w' => e = .returned (.int .i64 0) ∧ ∃ γ' A' B', Wm w' γ' h A' (begS H (g + 1)).1 B' (begS H (g + 1)).2 ∧ Fr hTn w w' γ γ' ∧ A'.wn = A.wn ∧ B'.an ≤ 3000 * (g + 1) ∧ B'.gs.length ≤ 3 * (g + 1) := by
  have RS := (sg_rest q).rest
  have c7 := q.co
  have c0 := q.cg
  have hmm := @run_makeMap Tryz.prog
  have og := q.ok.g
  obtain ⟨ob, cap, e1, _, _⟩ := row_form q.row.out (by omega)
  rw [e1] at c7
  have O := fun W => one_any W g H.c.g
  rw [show oneB (g : Int) H.c.g = true from oneB_yes.2 ⟨by omega, by omega⟩] at O
  have RN := Rm.new_any w H.c.g og
  have HQ := Hid.mk q
  have hlt0 := q.lt
  have HL := Hid.mk hl
  have HP := Hid.mk hpos
  have cx := Hid.mk q.box
  have HOK := Hid.mk q.ok
  clear q hl hpos
  obtain ⟨m, hm⟩ : ∃ m, H.c.g = m := ⟨_, rfl⟩
  rw [hm] at c7 c0 O RN og hg
  go_enter Tryz.func28, Tryz.ntmps28
  go_wp2_with (first
    | (go_at_call 58; refine RS.mono ?_; rintro e w1 ⟨rfl, hw⟩; rw [hw]; clear hw RS)
    | (go_at_call 51; refine (O _).mono ?_; rintro e w1 ⟨rfl, hw⟩; rw [hw]; clear hw)
    | (go_at_call 76; refine RN.mono ?_; rintro e w1 ⟨l, lb, lm, rfl, L1, B1⟩; have z10 := Joins.unfrozen_of_block ((B1.block h hlt0).trans cx.out) 10; have k10 := hd4 ((B1.block h hlt0).trans cx.out) 10; have hl1 := Nat.lt_of_lt_of_le hlt0 B1.size; simp only [hcells, List.getElem?_toArray, List.getElem?_cons_zero, List.getElem?_cons_succ] at k10; have WN := work_new HQ.out (hm ▸ L1) B1; have HWN := Hid.mk WN; clear WN L1))
  obtain ⟨γ1, F1, W1⟩ := HWN.out
  rw [World.setCell_alloc_past _ _ _ _ (by rw [World.size_alloc]; omega), World.setCell_alloc_past _ _ _ _ (by omega)] at F1 W1
  have HF1 := Hid.mk F1
  have HW1 := Hid.mk W1
  clear F1 W1 HWN
  have eg : IntKind.i64.wrap ((g : Int) + 1) = (g : Int) + 1 := by rw [IntKind.wrap_i64]; omega
  clear cx z10 k10
  go_loopw [40] (fun i' wr => ∃ (j : Nat) (γ' : Nat → Tg) (A' : Ad) (B' : Wa), i' = .int .i64 j ∧ j ≤ g + 1 ∧ Hid (Wm wr γ' h A' (begS H j).1 B' (begS H j).2) ∧ Hid (Fr hTn w wr γ γ') ∧ A'.wn = A.wn ∧ B'.an ≤ 3000 * j ∧ B'.gs.length ≤ 3 * j) (fun i' _ => g + 1 - (RowKit.intOf i').toNat)
  case atStart => exact ⟨0, γ1, A, _, rfl, Nat.zero_le _, HW1, HF1, rfl, by show 0 ≤ _; omega, by show ([] : List Nat).length ≤ _; simp⟩
  case round =>
    obtain ⟨j, γ', A', B', rfl, hj, HWr, HFr, e5, e6, e7⟩ := hrel
    by_cases hlt : j < g + 1
    · have hlt' : (j : Int) < (g : Int) + 1 := by omega
      have ec := begS_c H j
      have en : (begS H j).1.c.n j = H.c.n j := by rw [ec]
      have es := begS_sp H j j (Nat.le_refl _)
      have n3 := HOK.out.n j
      have SA := set_aside HWr.out j (by rw [ec]; omega) (fun s hs => by rw [es]; exact HL.out j s (by omega) (by rw [← en]; exact hs)) (fun s hs => by rw [es, ec]; exact HP.out j s (by omega) (by rw [← en]; exact hs)) (by omega) (by omega)
      have HEN := Hid.mk en
      clear ec en es
      go_wp2_with (go_at_call 77; refine SA.mono ?_; rintro e w2 ⟨rfl, γ2, v1, σ1, gv, W2, F2⟩; have HW2 := Hid.mk W2; have HF2 := Hid.mk (HFr.out.trans F2); clear W2 F2)
      go_roundw
      case rel => exact ⟨j + 1, γ2, _, _, by go_num, by omega, HW2, HF2, e5, by show B'.an + 1000 * (begS H j).1.c.n j ≤ _; rw [HEN.out]; omega, by show (B'.gs ++ _).length ≤ _; rw [List.length_append, List.length_map, List.length_range, HEN.out]; omega⟩
      case measure => simp [RowKit.intOf]; omega
    · obtain rfl : g + 1 = j := by omega
      go_wp2
      go_ret
      exact ⟨rfl, γ', A', B', HWr.out, HFr.out, e5, e6, e7⟩
end
end Go.Proofs.YtbdoekffadmejaaGreatDoor
