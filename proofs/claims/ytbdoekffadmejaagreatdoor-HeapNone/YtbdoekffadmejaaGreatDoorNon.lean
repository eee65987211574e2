/- Package heap: the law HeapNone: the walk over a nil heap. -/
import Derived.Test.YtbdoekffadmejaaGreatDoorOpn
namespace Go.Proofs.YtbdoekffadmejaaGreatDoor
open Go.RowKit
set_option linter.unusedVariables false
set_option linter.unusedSimpArgs false
set_option maxRecDepth 100000

theorem same_below {w w' : World} {e v : Ending} (h : e = v ∧ w' = w) : e = v ∧ Below w.heap.size w w' := ⟨h.1, by rw [h.2]; exact Below.refl _ _⟩
set_option maxHeartbeats 8000000 in
theorem none_walk (k a i p x1 x2 x3 x4 : Int) (ga : Option Addr) (n1 c1 : Nat) (gb : Option Addr) (n2 c2 : Nat) (w : World) (tb : Sh.Table w) (sp : Wo.Spans w) :
    Calls Tryz.prog 6 #[.agg #[.int .i64 k, .int .i64 a, .int .i64 i, .int .i64 p, .int .i64 x1, .int .i64 x2, .int .i64 x3, .int .i64 x4, .slice ga n1 c1, .slice gb n2 c2]] w fun e w' => e = .returned (.bool true) ∧ Below w.heap.size w w' := by
  have HX := Hid.mk (heap_alloc_new w (.cells #[.int .i64 k, .int .i64 a, .int .i64 i, .int .i64 p, .int .i64 x1, .int .i64 x2, .int .i64 x3, .int .i64 x4, .slice ga n1 c1, .slice gb n2 c2] 34))
  have HB := Hid.mk ((Below.refl _ w).alloc (Nat.le_refl _) (.cells #[.int .i64 k, .int .i64 a, .int .i64 i, .int .i64 p, .int .i64 x1, .int .i64 x2, .int .i64 x3, .int .i64 x4, .slice ga n1 c1, .slice gb n2 c2] 34))
  have HT := Hid.mk (And.intro tb sp)
  have LE := fun W => lay_err (sgl_nil W) (by decide) x1 x2 x3 x4 (.slice ga n1 c1) (.slice gb n2 c2)
  have HG := fun W => hd_gone (sgl_nil W) (by decide) a
  have PE := fun W => ptr_err (hd_gone (sgl_nil W) (by decide) a) (by decide) (i := i)
  have NE := fun W => non_err (hd_gone (sgl_nil W) (by decide) a) (by decide) (i := i)
  have WE := fun W => where_err (sgl_nil W) (by decide) a
  have EE := fun W => evac_err (sgl_nil W) (by decide) a i
  have FE := fun W => fresh_err (sgl_nil W) (by decide)
  have SE := fun W => set_err (sgl_nil W) (by decide) a i p
  have PA := fun W => pass_err (sgl_nil W) (by decide) a p
  have HO := fun W => hole_err (sgl_nil W) (by decide) a
  have FA := fun W => fail_err (sgl_nil W) (by decide) a 1
  have BE := fun W => begin_err (sgl_nil W) (by decide) i
  have ST := fun W => store_err (sgl_nil W) (by decide) a i p
  have FI := fun W => finish_err (sgl_nil W) (by decide)
  have OE := fun W => old_err (sgl_nil W) (by decide) i
  have LF := fun W => left_err (sgl_nil W) (by decide)
  have CN := fun W => (closures_nilh W i 0).mono (fun e w' q => same_below q)
  have UN := fun W => (used_nilh W i).mono (fun e w' q => same_below q)
  have BN := fun W => (blocks_nilh W i).mono (fun e w' q => same_below q)
  clear tb sp
  unfold HdC at HG
  go_enter Tryz.func6, Tryz.ntmps6
  go_wp2_with (first
    | (go_at_call 20; refine (LE _).mono ?_; rintro e w1 ⟨rfl, B⟩; have HX := Hid.mk ((B.block w.heap.size (lt_of HX.out)).trans HX.out); have k1 : w1.cell? ⟨w.heap.size, 1, none⟩ = some (.int .i64 a) := hd4 HX.out 1; have k2 : w1.cell? ⟨w.heap.size, 2, none⟩ = some (.int .i64 i) := hd4 HX.out 2; have k3 : w1.cell? ⟨w.heap.size, 3, none⟩ = some (.int .i64 p) := hd4 HX.out 3; have HB := Hid.mk (HB.out.trans (B.mono HB.out.size)); clear B)
    | (go_at_call 11; refine (HG _).mono ?_; rintro e w2 ⟨rfl, B⟩; have HX := Hid.mk ((B.block w.heap.size (lt_of HX.out)).trans HX.out); have k1 : w2.cell? ⟨w.heap.size, 1, none⟩ = some (.int .i64 a) := hd4 HX.out 1; have k2 : w2.cell? ⟨w.heap.size, 2, none⟩ = some (.int .i64 i) := hd4 HX.out 2; have k3 : w2.cell? ⟨w.heap.size, 3, none⟩ = some (.int .i64 p) := hd4 HX.out 3; have HB := Hid.mk (HB.out.trans (B.mono HB.out.size)); clear B; have BZ := (Below.refl _ w2).alloc (Nat.le_refl _) (.cells #[.int .i64 0, .int .i64 0, .int .i64 0, .int .i64 0] 30); have HY := Hid.mk (heap_alloc_new w2 (.cells #[.int .i64 0, .int .i64 0, .int .i64 0, .int .i64 0] 30)); have HX := Hid.mk ((BZ.block w.heap.size (lt_of HX.out)).trans HX.out); have k1 : (w2.alloc (.cells #[.int .i64 0, .int .i64 0, .int .i64 0, .int .i64 0] 30)).cell? ⟨w.heap.size, 1, none⟩ = some (.int .i64 a) := hd4 HX.out 1; have k2 : (w2.alloc (.cells #[.int .i64 0, .int .i64 0, .int .i64 0, .int .i64 0] 30)).cell? ⟨w.heap.size, 2, none⟩ = some (.int .i64 i) := hd4 HX.out 2; have k3 : (w2.alloc (.cells #[.int .i64 0, .int .i64 0, .int .i64 0, .int .i64 0] 30)).cell? ⟨w.heap.size, 3, none⟩ = some (.int .i64 p) := hd4 HX.out 3; have HB := Hid.mk (HB.out.trans (BZ.mono HB.out.size)); clear BZ)
    | (go_at_call 12; refine (PE _).mono ?_; rintro e w3 ⟨rfl, B⟩; have HX := Hid.mk ((B.block w.heap.size (lt_of HX.out)).trans HX.out); have k1 : w3.cell? ⟨w.heap.size, 1, none⟩ = some (.int .i64 a) := hd4 HX.out 1; have k2 : w3.cell? ⟨w.heap.size, 2, none⟩ = some (.int .i64 i) := hd4 HX.out 2; have k3 : w3.cell? ⟨w.heap.size, 3, none⟩ = some (.int .i64 p) := hd4 HX.out 3; have HY := Hid.mk ((B.block w2.heap.size (lt_of HY.out)).trans HY.out); have HB := Hid.mk (HB.out.trans (B.mono HB.out.size)); clear B)
    | (go_at_call 19; refine (NE _).mono ?_; rintro e w4 ⟨rfl, B⟩; have HX := Hid.mk ((B.block w.heap.size (lt_of HX.out)).trans HX.out); have k1 : w4.cell? ⟨w.heap.size, 1, none⟩ = some (.int .i64 a) := hd4 HX.out 1; have k2 : w4.cell? ⟨w.heap.size, 2, none⟩ = some (.int .i64 i) := hd4 HX.out 2; have k3 : w4.cell? ⟨w.heap.size, 3, none⟩ = some (.int .i64 p) := hd4 HX.out 3; have HY := Hid.mk ((B.block w2.heap.size (lt_of HY.out)).trans HY.out); have HB := Hid.mk (HB.out.trans (B.mono HB.out.size)); clear B)
    | (go_at_call 21; refine (WE _).mono ?_; rintro e w5 ⟨rfl, B⟩; have HX := Hid.mk ((B.block w.heap.size (lt_of HX.out)).trans HX.out); have k1 : w5.cell? ⟨w.heap.size, 1, none⟩ = some (.int .i64 a) := hd4 HX.out 1; have k2 : w5.cell? ⟨w.heap.size, 2, none⟩ = some (.int .i64 i) := hd4 HX.out 2; have k3 : w5.cell? ⟨w.heap.size, 3, none⟩ = some (.int .i64 p) := hd4 HX.out 3; have HY := Hid.mk ((B.block w2.heap.size (lt_of HY.out)).trans HY.out); have HB := Hid.mk (HB.out.trans (B.mono HB.out.size)); clear B)
    | (go_at_call 22; refine (EE _).mono ?_; rintro e w6 ⟨rfl, B⟩; have HX := Hid.mk ((B.block w.heap.size (lt_of HX.out)).trans HX.out); have k1 : w6.cell? ⟨w.heap.size, 1, none⟩ = some (.int .i64 a) := hd4 HX.out 1; have k2 : w6.cell? ⟨w.heap.size, 2, none⟩ = some (.int .i64 i) := hd4 HX.out 2; have k3 : w6.cell? ⟨w.heap.size, 3, none⟩ = some (.int .i64 p) := hd4 HX.out 3; have HY := Hid.mk ((B.block w2.heap.size (lt_of HY.out)).trans HY.out); have HB := Hid.mk (HB.out.trans (B.mono HB.out.size)); clear B)
    | (go_at_call 23; refine (FE _).mono ?_; rintro e w7 ⟨rfl, B⟩; have HX := Hid.mk ((B.block w.heap.size (lt_of HX.out)).trans HX.out); have k1 : w7.cell? ⟨w.heap.size, 1, none⟩ = some (.int .i64 a) := hd4 HX.out 1; have k2 : w7.cell? ⟨w.heap.size, 2, none⟩ = some (.int .i64 i) := hd4 HX.out 2; have k3 : w7.cell? ⟨w.heap.size, 3, none⟩ = some (.int .i64 p) := hd4 HX.out 3; have HY := Hid.mk ((B.block w2.heap.size (lt_of HY.out)).trans HY.out); have HB := Hid.mk (HB.out.trans (B.mono HB.out.size)); clear B)
    | (go_at_call 24; refine (SE _).mono ?_; rintro e w8 ⟨rfl, B⟩; have HX := Hid.mk ((B.block w.heap.size (lt_of HX.out)).trans HX.out); have k1 : w8.cell? ⟨w.heap.size, 1, none⟩ = some (.int .i64 a) := hd4 HX.out 1; have k2 : w8.cell? ⟨w.heap.size, 2, none⟩ = some (.int .i64 i) := hd4 HX.out 2; have k3 : w8.cell? ⟨w.heap.size, 3, none⟩ = some (.int .i64 p) := hd4 HX.out 3; have HY := Hid.mk ((B.block w2.heap.size (lt_of HY.out)).trans HY.out); have HB := Hid.mk (HB.out.trans (B.mono HB.out.size)); clear B)
    | (go_at_call 25; refine (PA _).mono ?_; rintro e w9 ⟨rfl, B⟩; have HX := Hid.mk ((B.block w.heap.size (lt_of HX.out)).trans HX.out); have k1 : w9.cell? ⟨w.heap.size, 1, none⟩ = some (.int .i64 a) := hd4 HX.out 1; have k2 : w9.cell? ⟨w.heap.size, 2, none⟩ = some (.int .i64 i) := hd4 HX.out 2; have k3 : w9.cell? ⟨w.heap.size, 3, none⟩ = some (.int .i64 p) := hd4 HX.out 3; have HY := Hid.mk ((B.block w2.heap.size (lt_of HY.out)).trans HY.out); have HB := Hid.mk (HB.out.trans (B.mono HB.out.size)); clear B)
    | (go_at_call 26; refine (HO _).mono ?_; rintro e w10 ⟨rfl, B⟩; have HX := Hid.mk ((B.block w.heap.size (lt_of HX.out)).trans HX.out); have k1 : w10.cell? ⟨w.heap.size, 1, none⟩ = some (.int .i64 a) := hd4 HX.out 1; have k2 : w10.cell? ⟨w.heap.size, 2, none⟩ = some (.int .i64 i) := hd4 HX.out 2; have k3 : w10.cell? ⟨w.heap.size, 3, none⟩ = some (.int .i64 p) := hd4 HX.out 3; have HY := Hid.mk ((B.block w2.heap.size (lt_of HY.out)).trans HY.out); have HB := Hid.mk (HB.out.trans (B.mono HB.out.size)); clear B)
    | (go_at_call 27; refine (FA _).mono ?_; rintro e w11 ⟨rfl, B⟩; have HX := Hid.mk ((B.block w.heap.size (lt_of HX.out)).trans HX.out); have k1 : w11.cell? ⟨w.heap.size, 1, none⟩ = some (.int .i64 a) := hd4 HX.out 1; have k2 : w11.cell? ⟨w.heap.size, 2, none⟩ = some (.int .i64 i) := hd4 HX.out 2; have k3 : w11.cell? ⟨w.heap.size, 3, none⟩ = some (.int .i64 p) := hd4 HX.out 3; have HY := Hid.mk ((B.block w2.heap.size (lt_of HY.out)).trans HY.out); have HB := Hid.mk (HB.out.trans (B.mono HB.out.size)); clear B)
    | (go_at_call 28; refine (BE _).mono ?_; rintro e w12 ⟨rfl, B⟩; have HX := Hid.mk ((B.block w.heap.size (lt_of HX.out)).trans HX.out); have k1 : w12.cell? ⟨w.heap.size, 1, none⟩ = some (.int .i64 a) := hd4 HX.out 1; have k2 : w12.cell? ⟨w.heap.size, 2, none⟩ = some (.int .i64 i) := hd4 HX.out 2; have k3 : w12.cell? ⟨w.heap.size, 3, none⟩ = some (.int .i64 p) := hd4 HX.out 3; have HY := Hid.mk ((B.block w2.heap.size (lt_of HY.out)).trans HY.out); have HB := Hid.mk (HB.out.trans (B.mono HB.out.size)); clear B)
    | (go_at_call 29; refine (ST _).mono ?_; rintro e w13 ⟨rfl, B⟩; have HX := Hid.mk ((B.block w.heap.size (lt_of HX.out)).trans HX.out); have k1 : w13.cell? ⟨w.heap.size, 1, none⟩ = some (.int .i64 a) := hd4 HX.out 1; have k2 : w13.cell? ⟨w.heap.size, 2, none⟩ = some (.int .i64 i) := hd4 HX.out 2; have k3 : w13.cell? ⟨w.heap.size, 3, none⟩ = some (.int .i64 p) := hd4 HX.out 3; have HY := Hid.mk ((B.block w2.heap.size (lt_of HY.out)).trans HY.out); have HB := Hid.mk (HB.out.trans (B.mono HB.out.size)); clear B)
    | (go_at_call 30; refine (FI _).mono ?_; rintro e w14 ⟨rfl, B⟩; have HX := Hid.mk ((B.block w.heap.size (lt_of HX.out)).trans HX.out); have k1 : w14.cell? ⟨w.heap.size, 1, none⟩ = some (.int .i64 a) := hd4 HX.out 1; have k2 : w14.cell? ⟨w.heap.size, 2, none⟩ = some (.int .i64 i) := hd4 HX.out 2; have k3 : w14.cell? ⟨w.heap.size, 3, none⟩ = some (.int .i64 p) := hd4 HX.out 3; have HY := Hid.mk ((B.block w2.heap.size (lt_of HY.out)).trans HY.out); have HB := Hid.mk (HB.out.trans (B.mono HB.out.size)); clear B))
  have BD := below_drew1 w14
  have HX := Hid.mk ((BD.block w.heap.size (lt_of HX.out)).trans HX.out); have k1 : w14.drew.cell? ⟨w.heap.size, 1, none⟩ = some (.int .i64 a) := hd4 HX.out 1; have k2 : w14.drew.cell? ⟨w.heap.size, 2, none⟩ = some (.int .i64 i) := hd4 HX.out 2; have k3 : w14.drew.cell? ⟨w.heap.size, 3, none⟩ = some (.int .i64 p) := hd4 HX.out 3; have HY := Hid.mk ((BD.block w2.heap.size (lt_of HY.out)).trans HY.out); have HB := Hid.mk (HB.out.trans (BD.mono HB.out.size)); clear BD
  refine wp_region_held_drew (S := (fun wx => Below w.heap.size w wx ∧ wx.cell? ⟨w.heap.size, 2, none⟩ = some (.int .i64 i) ∧ wx.heap[w2.heap.size]? = some (.cells #[.int .i64 0, .int .i64 0, .int .i64 0, .int .i64 0] 30 (0, 0)))) (by kernel_rfl) ⟨HB.out, k2, HY.out⟩ (fun hHeld => ?_)
  refine wpAnyH_ready (rs := [0]) (by kernel_rfl) (by simp) ?_
  refine AllReadyH.cons rfl (fun K hK => ?_) AllReadyH.nil
  go_simp
  try rw [if_pos (by decide)]
  (go_at_call 8; refine (awake_any (HT.out.1.later HB.out) (HT.out.2.later HB.out)).mono ?_; rintro e W1 ⟨rfl, B⟩; have HX := Hid.mk ((B.block w.heap.size (lt_of HX.out)).trans HX.out); have HY := Hid.mk ((B.block w2.heap.size (lt_of HY.out)).trans HY.out); have HB := Hid.mk (HB.out.trans (B.mono HB.out.size)); clear B)
  try go_wp2_with fail
  refine hK.out _ _ ⟨HB.out, hd4 HX.out 2, HY.out⟩ (fun hHeld => ?_)
  clear hK K
  try simp only [Act.put, List.getElem_toArray, List.getElem_cons_zero, List.getElem_cons_succ, List.setIfInBounds_toArray, List.set_cons_zero, List.set_cons_succ]
  refine wpAnyH_take (i := 1) (v := ?_) rfl (by kernel_rfl) (by kernel_rfl) (by kernel_rfl) (fun _ _ _ h => h) (Or.inl ⟨by rfl, ?_⟩) (by assumption) ?_
  rotate_left
  · intro w' hSw
    try dsimp only at hSw
    go_simp
    try with_reducible rfl
  try simp only [Act.put, List.getElem_toArray, List.getElem_cons_zero, List.getElem_cons_succ, List.setIfInBounds_toArray, List.set_cons_zero, List.set_cons_succ]
  refine wpAnyH_take (i := 2) (v := ?_) rfl (by kernel_rfl) (by kernel_rfl) (by kernel_rfl) (fun _ _ _ h => h) (Or.inl ⟨by rfl, ?_⟩) (by assumption) ?_
  rotate_left
  · intro w' hSw
    try dsimp only at hSw
    go_simp
    try with_reducible rfl
  try simp only [Act.put, List.getElem_toArray, List.getElem_cons_zero, List.getElem_cons_succ, List.setIfInBounds_toArray, List.set_cons_zero, List.set_cons_succ]
  refine wpAnyH_take (i := 3) (v := ?_) rfl (by kernel_rfl) (by kernel_rfl) (by kernel_rfl) (fun _ _ _ h => h) (Or.inl ⟨by rfl, ?_⟩) (by assumption) ?_
  rotate_left
  · intro w' hSw
    try dsimp only at hSw
    go_simp
    try with_reducible rfl
  try simp only [Act.put, List.getElem_toArray, List.getElem_cons_zero, List.getElem_cons_succ, List.setIfInBounds_toArray, List.set_cons_zero, List.set_cons_succ]
  refine wpAnyH_take (i := 4) (v := ?_) rfl (by kernel_rfl) (by kernel_rfl) (by kernel_rfl) (fun _ _ _ h => h) (Or.inl ⟨by rfl, ?_⟩) (by assumption) ?_
  rotate_left
  · intro w' hSw
    try dsimp only at hSw
    go_simp
    try with_reducible rfl
  try simp only [Act.put, List.getElem_toArray, List.getElem_cons_zero, List.getElem_cons_succ, List.setIfInBounds_toArray, List.set_cons_zero, List.set_cons_succ]
  refine wpAnyH_take (i := 5) (v := ?_) rfl (by kernel_rfl) (by kernel_rfl) (by kernel_rfl) (fun _ _ _ h => h) (Or.inl ⟨by rfl, ?_⟩) (by assumption) ?_
  rotate_left
  · intro w' hSw
    try dsimp only at hSw
    have z0 := hd4 hSw.2.2 0
    have z1 := hd4 hSw.2.2 1
    have z2 := hd4 hSw.2.2 2
    have z3 := hd4 hSw.2.2 3
    simp only [List.getElem?_toArray, List.getElem?_cons_zero, List.getElem?_cons_succ] at z0 z1 z2 z3
    go_simp
    try with_reducible rfl
  try simp only [Act.put, List.getElem_toArray, List.getElem_cons_zero, List.getElem_cons_succ, List.setIfInBounds_toArray, List.set_cons_zero, List.set_cons_succ]
  refine wpAnyH_take (i := 6) (v := ?_) rfl (by kernel_rfl) (by kernel_rfl) (by kernel_rfl) (fun _ _ _ h => h) (Or.inl ⟨by rfl, ?_⟩) (by assumption) ?_
  rotate_left
  · intro w' hSw
    try dsimp only at hSw
    go_simp
    try with_reducible rfl
  try simp only [Act.put, List.getElem_toArray, List.getElem_cons_zero, List.getElem_cons_succ, List.setIfInBounds_toArray, List.set_cons_zero, List.set_cons_succ]
  refine wpAnyH_take (i := 7) (v := ?_) rfl (by kernel_rfl) (by kernel_rfl) (by kernel_rfl) (fun _ _ _ h => h) (Or.inl ⟨by rfl, ?_⟩) (by assumption) ?_
  rotate_left
  · intro w' hSw
    try dsimp only at hSw
    go_simp
    try with_reducible rfl
  try simp only [Act.put, List.getElem_toArray, List.getElem_cons_zero, List.getElem_cons_succ, List.setIfInBounds_toArray, List.set_cons_zero, List.set_cons_succ]
  refine wpAnyH_take (i := 8) (v := ?_) rfl (by kernel_rfl) (by kernel_rfl) (by kernel_rfl) (fun _ _ _ h => h) (Or.inl ⟨by rfl, ?_⟩) (by assumption) ?_
  rotate_left
  · intro w' hSw
    try dsimp only at hSw
    go_simp
    try with_reducible rfl
  try simp only [Act.put, List.getElem_toArray, List.getElem_cons_zero, List.getElem_cons_succ, List.setIfInBounds_toArray, List.set_cons_zero, List.set_cons_succ]
  refine wpAnyH_take (i := 9) (v := ?_) rfl (by kernel_rfl) (by kernel_rfl) (by kernel_rfl) (fun _ _ _ h => h) (Or.inl ⟨by rfl, ?_⟩) (by assumption) ?_
  rotate_left
  · intro w' hSw
    try dsimp only at hSw
    go_simp
    try with_reducible rfl
  try simp only [Act.put, List.getElem_toArray, List.getElem_cons_zero, List.getElem_cons_succ, List.setIfInBounds_toArray, List.set_cons_zero, List.set_cons_succ]
  refine wpAnyH_take (i := 10) (v := ?_) rfl (by kernel_rfl) (by kernel_rfl) (by kernel_rfl) (fun _ _ _ h => h) (Or.inl ⟨by rfl, ?_⟩) (by assumption) ?_
  rotate_left
  · intro w' hSw
    try dsimp only at hSw
    go_simp
    try with_reducible rfl
  try simp only [Act.put, List.getElem_toArray, List.getElem_cons_zero, List.getElem_cons_succ, List.setIfInBounds_toArray, List.set_cons_zero, List.set_cons_succ]
  refine wpAnyH_take (i := 11) (v := ?_) rfl (by kernel_rfl) (by kernel_rfl) (by kernel_rfl) (fun _ _ _ h => h) (Or.inl ⟨by rfl, ?_⟩) (by assumption) ?_
  rotate_left
  · intro w' hSw
    try dsimp only at hSw
    go_simp
    try with_reducible rfl
  try simp only [Act.put, List.getElem_toArray, List.getElem_cons_zero, List.getElem_cons_succ, List.setIfInBounds_toArray, List.set_cons_zero, List.set_cons_succ]
  refine wpAnyH_take (i := 12) (v := ?_) rfl (by kernel_rfl) (by kernel_rfl) (by kernel_rfl) (fun _ _ _ h => h) (Or.inl ⟨by rfl, ?_⟩) (by assumption) ?_
  rotate_left
  · intro w' hSw
    try dsimp only at hSw
    go_simp
    try with_reducible rfl
  try simp only [Act.put, List.getElem_toArray, List.getElem_cons_zero, List.getElem_cons_succ, List.setIfInBounds_toArray, List.set_cons_zero, List.set_cons_succ]
  refine wpAnyH_take (i := 13) (v := ?_) rfl (by kernel_rfl) (by kernel_rfl) (by kernel_rfl) (fun _ _ _ h => h) (Or.inl ⟨by rfl, ?_⟩) (by assumption) ?_
  rotate_left
  · intro w' hSw
    try dsimp only at hSw
    go_simp
    try with_reducible rfl
  try simp only [Act.put, List.getElem_toArray, List.getElem_cons_zero, List.getElem_cons_succ, List.setIfInBounds_toArray, List.set_cons_zero, List.set_cons_succ]
  refine wpAnyH_take (i := 14) (v := ?_) rfl (by kernel_rfl) (by kernel_rfl) (by kernel_rfl) (fun _ _ _ h => h) (Or.inl ⟨by rfl, ?_⟩) (by assumption) ?_
  rotate_left
  · intro w' hSw
    try dsimp only at hSw
    go_simp
    try with_reducible rfl
  try simp only [Act.put, List.getElem_toArray, List.getElem_cons_zero, List.getElem_cons_succ, List.setIfInBounds_toArray, List.set_cons_zero, List.set_cons_succ]
  refine wpAnyH_take (i := 15) (v := ?_) rfl (by kernel_rfl) (by kernel_rfl) (by kernel_rfl) (fun _ _ _ h => h) (Or.inl ⟨by rfl, ?_⟩) (by assumption) ?_
  rotate_left
  · intro w' hSw
    try dsimp only at hSw
    go_simp
    try with_reducible rfl
  try simp only [Act.put, List.getElem_toArray, List.getElem_cons_zero, List.getElem_cons_succ, List.setIfInBounds_toArray, List.set_cons_zero, List.set_cons_succ]
  refine wpAnyH_take (i := 16) (v := ?_) rfl (by kernel_rfl) (by kernel_rfl) (by kernel_rfl) (fun _ _ _ h => h) (Or.inl ⟨by rfl, ?_⟩) (by assumption) ?_
  rotate_left
  · intro w' hSw
    try dsimp only at hSw
    go_simp
    try with_reducible rfl
  try simp only [Act.put, List.getElem_toArray, List.getElem_cons_zero, List.getElem_cons_succ, List.setIfInBounds_toArray, List.set_cons_zero, List.set_cons_succ]
  refine wpAnyH_take (i := 17) (v := ?_) rfl (by kernel_rfl) (by kernel_rfl) (by kernel_rfl) (fun _ _ _ h => h) (Or.inl ⟨by rfl, ?_⟩) (by assumption) ?_
  rotate_left
  · intro w' hSw
    try dsimp only at hSw
    go_simp
    try with_reducible rfl
  try simp only [Act.put, List.getElem_toArray, List.getElem_cons_zero, List.getElem_cons_succ, List.setIfInBounds_toArray, List.set_cons_zero, List.set_cons_succ]
  refine wpAnyH_take (i := 18) (v := ?_) rfl (by kernel_rfl) (by kernel_rfl) (by kernel_rfl) (fun _ _ _ h => h) (Or.inl ⟨by rfl, ?_⟩) (by assumption) ?_
  rotate_left
  · intro w' hSw
    try dsimp only at hSw
    go_simp
    try with_reducible rfl
  try simp only [Act.put, List.getElem_toArray, List.getElem_cons_zero, List.getElem_cons_succ, List.setIfInBounds_toArray, List.set_cons_zero, List.set_cons_succ]
  refine wpAnyH_take (i := 19) (v := ?_) rfl (by kernel_rfl) (by kernel_rfl) (by kernel_rfl) (fun _ _ _ h => h) (Or.inl ⟨by rfl, ?_⟩) (by assumption) ?_
  rotate_left
  · intro w' hSw
    try dsimp only at hSw
    go_simp
    try with_reducible rfl
  try simp only [Act.put, List.getElem_toArray, List.getElem_cons_zero, List.getElem_cons_succ, List.setIfInBounds_toArray, List.set_cons_zero, List.set_cons_succ]
  refine wpAnyH_take (i := 20) (v := ?_) rfl (by kernel_rfl) (by kernel_rfl) (by kernel_rfl) (fun _ _ _ h => h) (Or.inl ⟨by rfl, ?_⟩) (by assumption) ?_
  rotate_left
  · intro w' hSw
    try dsimp only at hSw
    go_simp
    try with_reducible rfl
  try simp only [Act.put, List.getElem_toArray, List.getElem_cons_zero, List.getElem_cons_succ, List.setIfInBounds_toArray, List.set_cons_zero, List.set_cons_succ]
  refine wpAnyH_take (i := 21) (v := ?_) rfl (by kernel_rfl) (by kernel_rfl) (by kernel_rfl) (fun _ _ _ h => h) (Or.inl ⟨by rfl, ?_⟩) (by assumption) ?_
  rotate_left
  · intro w' hSw
    try dsimp only at hSw
    go_simp
    try with_reducible rfl
  try simp only [Act.put, List.getElem_toArray, List.getElem_cons_zero, List.getElem_cons_succ, List.setIfInBounds_toArray, List.set_cons_zero, List.set_cons_succ]
  refine wpAnyH_take (i := 22) (v := ?_) rfl (by kernel_rfl) (by kernel_rfl) (by kernel_rfl) (fun _ _ _ h => h) (Or.inl ⟨by rfl, ?_⟩) (by assumption) ?_
  rotate_left
  · intro w' hSw
    try dsimp only at hSw
    go_simp
    try with_reducible rfl
  try simp only [Act.put, List.getElem_toArray, List.getElem_cons_zero, List.getElem_cons_succ, List.setIfInBounds_toArray, List.set_cons_zero, List.set_cons_succ]
  refine wpAnyH_take (i := 23) (v := ?_) rfl (by kernel_rfl) (by kernel_rfl) (by kernel_rfl) (fun _ _ _ h => h) (Or.inl ⟨by rfl, ?_⟩) (by assumption) ?_
  rotate_left
  · intro w' hSw
    try dsimp only at hSw
    go_simp
    try with_reducible rfl
  try simp only [Act.put, List.getElem_toArray, List.getElem_cons_zero, List.getElem_cons_succ, List.setIfInBounds_toArray, List.set_cons_zero, List.set_cons_succ]
  refine wpAnyH_take (i := 24) (v := ?_) rfl (by kernel_rfl) (by kernel_rfl) (by kernel_rfl) (fun _ _ _ h => h) (Or.inl ⟨by rfl, ?_⟩) (by assumption) ?_
  rotate_left
  · intro w' hSw
    try dsimp only at hSw
    go_simp
    try with_reducible rfl
  try simp only [Act.put, List.getElem_toArray, List.getElem_cons_zero, List.getElem_cons_succ, List.setIfInBounds_toArray, List.set_cons_zero, List.set_cons_succ]
  refine wpAnyH_take (i := 25) (v := ?_) rfl (by kernel_rfl) (by kernel_rfl) (by kernel_rfl) (fun _ _ _ h => h) (Or.inl ⟨by rfl, ?_⟩) (by assumption) ?_
  rotate_left
  · intro w' hSw
    try dsimp only at hSw
    go_simp
    try with_reducible rfl
  try simp only [Act.put, List.getElem_toArray, List.getElem_cons_zero, List.getElem_cons_succ, List.setIfInBounds_toArray, List.set_cons_zero, List.set_cons_succ]
  refine wpAnyH_take (i := 26) (v := ?_) rfl (by kernel_rfl) (by kernel_rfl) (by kernel_rfl) (fun _ _ _ h => h) (Or.inl ⟨by rfl, ?_⟩) (by assumption) ?_
  rotate_left
  · intro w' hSw
    try dsimp only at hSw
    go_simp
    try with_reducible rfl
  try simp only [Act.put, List.getElem_toArray, List.getElem_cons_zero, List.getElem_cons_succ, List.setIfInBounds_toArray, List.set_cons_zero, List.set_cons_succ]
  refine wpAnyH_take (i := 27) (v := ?_) rfl (by kernel_rfl) (by kernel_rfl) (by kernel_rfl) (fun _ _ _ h => h) (Or.inl ⟨by rfl, ?_⟩) (by assumption) ?_
  rotate_left
  · intro w' hSw
    try dsimp only at hSw
    go_simp
    try with_reducible rfl
  try simp only [Act.put, List.getElem_toArray, List.getElem_cons_zero, List.getElem_cons_succ, List.setIfInBounds_toArray, List.set_cons_zero, List.set_cons_succ]
  refine wpAnyH_take (i := 28) (v := ?_) rfl (by kernel_rfl) (by kernel_rfl) (by kernel_rfl) (fun _ _ _ h => h) (Or.inl ⟨by rfl, ?_⟩) (by assumption) ?_
  rotate_left
  · intro w' hSw
    try dsimp only at hSw
    go_simp
    try with_reducible rfl
  try simp only [Act.put, List.getElem_toArray, List.getElem_cons_zero, List.getElem_cons_succ, List.setIfInBounds_toArray, List.set_cons_zero, List.set_cons_succ]
  refine wpAnyH_take (i := 29) (v := ?_) rfl (by kernel_rfl) (by kernel_rfl) (by kernel_rfl) (fun _ _ _ h => h) (Or.inl ⟨by rfl, ?_⟩) (by assumption) ?_
  rotate_left
  · intro w' hSw
    try dsimp only at hSw
    go_simp
    try with_reducible rfl
  try simp only [Act.put, List.getElem_toArray, List.getElem_cons_zero, List.getElem_cons_succ, List.setIfInBounds_toArray, List.set_cons_zero, List.set_cons_succ]
  refine wpAnyH_take (i := 30) (v := ?_) rfl (by kernel_rfl) (by kernel_rfl) (by kernel_rfl) (fun _ _ _ h => h) (Or.inl ⟨by rfl, ?_⟩) (by assumption) ?_
  rotate_left
  · intro w' hSw
    try dsimp only at hSw
    go_simp
    try with_reducible rfl
  try simp only [Act.put, List.getElem_toArray, List.getElem_cons_zero, List.getElem_cons_succ, List.setIfInBounds_toArray, List.set_cons_zero, List.set_cons_succ]
  refine wpAnyH_take (i := 31) (v := ?_) rfl (by kernel_rfl) (by kernel_rfl) (by kernel_rfl) (fun _ _ _ h => h) (Or.inl ⟨by rfl, ?_⟩) (by assumption) ?_
  rotate_left
  · intro w' hSw
    try dsimp only at hSw
    go_simp
    try with_reducible rfl
  try simp only [Act.put, List.getElem_toArray, List.getElem_cons_zero, List.getElem_cons_succ, List.setIfInBounds_toArray, List.set_cons_zero, List.set_cons_succ]
  refine wpAnyH_take (i := 32) (v := ?_) rfl (by kernel_rfl) (by kernel_rfl) (by kernel_rfl) (fun _ _ _ h => h) (Or.inl ⟨by rfl, ?_⟩) (by assumption) ?_
  rotate_left
  · intro w' hSw
    try dsimp only at hSw
    go_simp
    try with_reducible rfl
  try simp only [Act.put, List.getElem_toArray, List.getElem_cons_zero, List.getElem_cons_succ, List.setIfInBounds_toArray, List.set_cons_zero, List.set_cons_succ]
  refine wpAnyH_take (i := 33) (v := ?_) rfl (by kernel_rfl) (by kernel_rfl) (by kernel_rfl) (fun _ _ _ h => h) (Or.inl ⟨by rfl, ?_⟩) (by assumption) ?_
  rotate_left
  · intro w' hSw
    try dsimp only at hSw
    go_simp
    try with_reducible rfl
  try simp only [Act.put, List.getElem_toArray, List.getElem_cons_zero, List.getElem_cons_succ, List.setIfInBounds_toArray, List.set_cons_zero, List.set_cons_succ]
  refine wpAnyH_take (i := 36) (v := ?_) rfl (by kernel_rfl) (by kernel_rfl) (by kernel_rfl) (fun _ _ _ h => h) (Or.inl ⟨by rfl, ?_⟩) (by assumption) ?_
  rotate_left
  · intro w' hSw
    try dsimp only at hSw
    go_simp
    try with_reducible rfl
  try simp only [Act.put, List.getElem_toArray, List.getElem_cons_zero, List.getElem_cons_succ, List.setIfInBounds_toArray, List.set_cons_zero, List.set_cons_succ]
  refine wpAnyH_take (i := 37) (v := ?_) rfl (by kernel_rfl) (by kernel_rfl) (by kernel_rfl) (fun _ _ _ h => h) (Or.inl ⟨by rfl, ?_⟩) (by assumption) ?_
  rotate_left
  · intro w' hSw
    try dsimp only at hSw
    go_simp
    try with_reducible rfl
  try simp only [Act.put, List.getElem_toArray, List.getElem_cons_zero, List.getElem_cons_succ, List.setIfInBounds_toArray, List.set_cons_zero, List.set_cons_succ]
  refine wpAnyH_take (i := 38) (v := ?_) rfl (by kernel_rfl) (by kernel_rfl) (by kernel_rfl) (fun _ _ _ h => h) (Or.inl ⟨by rfl, ?_⟩) (by assumption) ?_
  rotate_left
  · intro w' hSw
    try dsimp only at hSw
    go_simp
    try with_reducible rfl
  try simp only [Act.put, List.getElem_toArray, List.getElem_cons_zero, List.getElem_cons_succ, List.setIfInBounds_toArray, List.set_cons_zero, List.set_cons_succ]
  refine wpAnyH_take (i := 42) (v := ?_) rfl (by kernel_rfl) (by kernel_rfl) (by kernel_rfl) (fun _ _ _ h => h) (Or.inl ⟨by rfl, ?_⟩) (by assumption) ?_
  rotate_left
  · intro w' hSw
    try dsimp only at hSw
    go_simp
    try with_reducible rfl
  try simp only [Act.put, List.getElem_toArray, List.getElem_cons_zero, List.getElem_cons_succ, List.setIfInBounds_toArray, List.set_cons_zero, List.set_cons_succ]
  refine wpAnyH_take (i := 43) (v := ?_) rfl (by kernel_rfl) (by kernel_rfl) (by kernel_rfl) (fun _ _ _ h => h) (Or.inl ⟨by rfl, ?_⟩) (by assumption) ?_
  rotate_left
  · intro w' hSw
    try dsimp only at hSw
    go_simp
    try with_reducible rfl
  try simp only [Act.put, List.getElem_toArray, List.getElem_cons_zero, List.getElem_cons_succ, List.setIfInBounds_toArray, List.set_cons_zero, List.set_cons_succ]
  refine wpAnyH_take (i := 44) (v := ?_) rfl (by kernel_rfl) (by kernel_rfl) (by kernel_rfl) (fun _ _ _ h => h) (Or.inl ⟨by rfl, ?_⟩) (by assumption) ?_
  rotate_left
  · intro w' hSw
    try dsimp only at hSw
    go_simp
    try with_reducible rfl
  try simp only [Act.put, List.getElem_toArray, List.getElem_cons_zero, List.getElem_cons_succ, List.setIfInBounds_toArray, List.set_cons_zero, List.set_cons_succ]
  refine wpAnyH_take (i := 47) (v := ?_) rfl (by kernel_rfl) (by kernel_rfl) (by kernel_rfl) (fun _ _ _ h => h) (Or.inl ⟨by rfl, ?_⟩) (by assumption) ?_
  rotate_left
  · intro w' hSw
    try dsimp only at hSw
    go_simp
    try with_reducible rfl
  try simp only [Act.put, List.getElem_toArray, List.getElem_cons_zero, List.getElem_cons_succ, List.setIfInBounds_toArray, List.set_cons_zero, List.set_cons_succ]
  refine wpAnyH_take (i := 48) (v := ?_) rfl (by kernel_rfl) (by kernel_rfl) (by kernel_rfl) (fun _ _ _ h => h) (Or.inl ⟨by rfl, ?_⟩) (by assumption) ?_
  rotate_left
  · intro w' hSw
    try dsimp only at hSw
    go_simp
    try with_reducible rfl
  try simp only [Act.put, List.getElem_toArray, List.getElem_cons_zero, List.getElem_cons_succ, List.setIfInBounds_toArray, List.set_cons_zero, List.set_cons_succ]
  refine wpAnyH_take (i := 49) (v := ?_) rfl (by kernel_rfl) (by kernel_rfl) (by kernel_rfl) (fun _ _ _ h => h) (Or.inl ⟨by rfl, ?_⟩) (by assumption) ?_
  rotate_left
  · intro w' hSw
    try dsimp only at hSw
    go_simp
    try with_reducible rfl
  try simp only [Act.put, List.getElem_toArray, List.getElem_cons_zero, List.getElem_cons_succ, List.setIfInBounds_toArray, List.set_cons_zero, List.set_cons_succ]
  refine wpAnyH_take (i := 52) (v := ?_) rfl (by kernel_rfl) (by kernel_rfl) (by kernel_rfl) (fun _ _ _ h => h) (Or.inl ⟨by rfl, ?_⟩) (by assumption) ?_
  rotate_left
  · intro w' hSw
    try dsimp only at hSw
    go_simp
    try with_reducible rfl
  try simp only [Act.put, List.getElem_toArray, List.getElem_cons_zero, List.getElem_cons_succ, List.setIfInBounds_toArray, List.set_cons_zero, List.set_cons_succ]
  refine wpAnyH_ready (rs := [34]) (by kernel_rfl) (by simp) ?_
  refine AllReadyH.cons rfl (fun K hK => ?_) AllReadyH.nil
  go_simp
  try rw [if_pos (by decide)]
  (go_at_call 31; refine (CN _).mono ?_; rintro e W2 ⟨rfl, B⟩; have HX := Hid.mk ((B.block w.heap.size (lt_of HX.out)).trans HX.out); have HY := Hid.mk ((B.block w2.heap.size (lt_of HY.out)).trans HY.out); have HB := Hid.mk (HB.out.trans (B.mono HB.out.size)); clear B)
  try go_wp2_with fail
  refine hK.out _ _ ⟨HB.out, hd4 HX.out 2, HY.out⟩ (fun hHeld => ?_)
  clear hK K
  try simp only [Act.put, List.getElem_toArray, List.getElem_cons_zero, List.getElem_cons_succ, List.setIfInBounds_toArray, List.set_cons_zero, List.set_cons_succ]
  refine wpAnyH_take (i := 35) (v := ?_) rfl (by kernel_rfl) (by kernel_rfl) (by kernel_rfl) (fun _ _ _ h => h) (Or.inl ⟨by rfl, ?_⟩) (by assumption) ?_
  rotate_left
  · intro w' hSw
    try dsimp only at hSw
    go_simp
    try with_reducible rfl
  try simp only [Act.put, List.getElem_toArray, List.getElem_cons_zero, List.getElem_cons_succ, List.setIfInBounds_toArray, List.set_cons_zero, List.set_cons_succ]
  refine wpAnyH_ready (rs := [39]) (by kernel_rfl) (by simp) ?_
  refine AllReadyH.cons rfl (fun K hK => ?_) AllReadyH.nil
  go_simp
  try rw [if_pos (by decide)]
  (go_at_call 14; refine (OE _).mono ?_; rintro e W3 ⟨rfl, B⟩; have HX := Hid.mk ((B.block w.heap.size (lt_of HX.out)).trans HX.out); have HY := Hid.mk ((B.block w2.heap.size (lt_of HY.out)).trans HY.out); have HB := Hid.mk (HB.out.trans (B.mono HB.out.size)); clear B)
  try go_wp2_with fail
  refine hK.out _ _ ⟨HB.out, hd4 HX.out 2, HY.out⟩ (fun hHeld => ?_)
  clear hK K
  try simp only [Act.put, List.getElem_toArray, List.getElem_cons_zero, List.getElem_cons_succ, List.setIfInBounds_toArray, List.set_cons_zero, List.set_cons_succ]
  refine wpAnyH_take (i := 40) (v := ?_) rfl (by kernel_rfl) (by kernel_rfl) (by kernel_rfl) (fun _ _ _ h => h) (Or.inl ⟨by rfl, ?_⟩) (by assumption) ?_
  rotate_left
  · intro w' hSw
    try dsimp only at hSw
    go_simp
    try with_reducible rfl
  try simp only [Act.put, List.getElem_toArray, List.getElem_cons_zero, List.getElem_cons_succ, List.setIfInBounds_toArray, List.set_cons_zero, List.set_cons_succ]
  refine wpAnyH_take (i := 41) (v := ?_) rfl (by kernel_rfl) (by kernel_rfl) (by kernel_rfl) (fun _ _ _ h => h) (Or.inl ⟨by rfl, ?_⟩) (by assumption) ?_
  rotate_left
  · intro w' hSw
    try dsimp only at hSw
    go_simp
    try with_reducible rfl
  try simp only [Act.put, List.getElem_toArray, List.getElem_cons_zero, List.getElem_cons_succ, List.setIfInBounds_toArray, List.set_cons_zero, List.set_cons_succ]
  refine wpAnyH_ready (rs := [45]) (by kernel_rfl) (by simp) ?_
  refine AllReadyH.cons rfl (fun K hK => ?_) AllReadyH.nil
  go_simp
  try rw [if_pos (by decide)]
  (go_at_call 16; refine (UN _).mono ?_; rintro e W4 ⟨rfl, B⟩; have HX := Hid.mk ((B.block w.heap.size (lt_of HX.out)).trans HX.out); have HY := Hid.mk ((B.block w2.heap.size (lt_of HY.out)).trans HY.out); have HB := Hid.mk (HB.out.trans (B.mono HB.out.size)); clear B)
  try go_wp2_with fail
  refine hK.out _ _ ⟨HB.out, hd4 HX.out 2, HY.out⟩ (fun hHeld => ?_)
  clear hK K
  try simp only [Act.put, List.getElem_toArray, List.getElem_cons_zero, List.getElem_cons_succ, List.setIfInBounds_toArray, List.set_cons_zero, List.set_cons_succ]
  refine wpAnyH_take (i := 46) (v := ?_) rfl (by kernel_rfl) (by kernel_rfl) (by kernel_rfl) (fun _ _ _ h => h) (Or.inl ⟨by rfl, ?_⟩) (by assumption) ?_
  rotate_left
  · intro w' hSw
    try dsimp only at hSw
    go_simp
    try with_reducible rfl
  try simp only [Act.put, List.getElem_toArray, List.getElem_cons_zero, List.getElem_cons_succ, List.setIfInBounds_toArray, List.set_cons_zero, List.set_cons_succ]
  refine wpAnyH_ready (rs := [50]) (by kernel_rfl) (by simp) ?_
  refine AllReadyH.cons rfl (fun K hK => ?_) AllReadyH.nil
  go_simp
  try rw [if_pos (by decide)]
  (go_at_call 32; refine (BN _).mono ?_; rintro e W5 ⟨rfl, B⟩; have HX := Hid.mk ((B.block w.heap.size (lt_of HX.out)).trans HX.out); have HY := Hid.mk ((B.block w2.heap.size (lt_of HY.out)).trans HY.out); have HB := Hid.mk (HB.out.trans (B.mono HB.out.size)); clear B)
  try go_wp2_with fail
  refine hK.out _ _ ⟨HB.out, hd4 HX.out 2, HY.out⟩ (fun hHeld => ?_)
  clear hK K
  try simp only [Act.put, List.getElem_toArray, List.getElem_cons_zero, List.getElem_cons_succ, List.setIfInBounds_toArray, List.set_cons_zero, List.set_cons_succ]
  refine wpAnyH_take (i := 51) (v := ?_) rfl (by kernel_rfl) (by kernel_rfl) (by kernel_rfl) (fun _ _ _ h => h) (Or.inl ⟨by rfl, ?_⟩) (by assumption) ?_
  rotate_left
  · intro w' hSw
    try dsimp only at hSw
    go_simp
    try with_reducible rfl
  try simp only [Act.put, List.getElem_toArray, List.getElem_cons_zero, List.getElem_cons_succ, List.setIfInBounds_toArray, List.set_cons_zero, List.set_cons_succ]
  refine wpAnyH_ready (rs := [53]) (by kernel_rfl) (by simp) ?_
  refine AllReadyH.cons rfl (fun K hK => ?_) AllReadyH.nil
  go_simp
  try rw [if_pos (by decide)]
  (go_at_call 33; refine (LF _).mono ?_; rintro e W6 ⟨rfl, B⟩; have HX := Hid.mk ((B.block w.heap.size (lt_of HX.out)).trans HX.out); have HY := Hid.mk ((B.block w2.heap.size (lt_of HY.out)).trans HY.out); have HB := Hid.mk (HB.out.trans (B.mono HB.out.size)); clear B)
  try go_wp2_with fail
  refine hK.out _ _ ⟨HB.out, hd4 HX.out 2, HY.out⟩ (fun hHeld => ?_)
  clear hK K
  try simp only [Act.put, List.getElem_toArray, List.getElem_cons_zero, List.getElem_cons_succ, List.setIfInBounds_toArray, List.set_cons_zero, List.set_cons_succ]
  refine wpAnyH_take (i := 54) (v := ?_) rfl (by kernel_rfl) (by kernel_rfl) (by kernel_rfl) (fun _ _ _ h => h) (Or.inl ⟨by rfl, ?_⟩) (by assumption) ?_
  rotate_left
  · intro w' hSw
    try dsimp only at hSw
    go_simp
    try with_reducible rfl
  try simp only [Act.put, List.getElem_toArray, List.getElem_cons_zero, List.getElem_cons_succ, List.setIfInBounds_toArray, List.set_cons_zero, List.set_cons_succ]
  refine wpAnyH_take (i := 55) (v := ?_) rfl (by kernel_rfl) (by kernel_rfl) (by kernel_rfl) (fun _ _ _ h => h) (Or.inl ⟨by rfl, ?_⟩) (by assumption) ?_
  rotate_left
  · intro w' hSw
    try dsimp only at hSw
    go_simp
    try with_reducible rfl
  try simp only [Act.put, List.getElem_toArray, List.getElem_cons_zero, List.getElem_cons_succ, List.setIfInBounds_toArray, List.set_cons_zero, List.set_cons_succ]
  refine wpAnyH_take (i := 56) (v := ?_) rfl (by kernel_rfl) (by kernel_rfl) (by kernel_rfl) (fun _ _ _ h => h) (Or.inl ⟨by rfl, ?_⟩) (by assumption) ?_
  rotate_left
  · intro w' hSw
    try dsimp only at hSw
    go_simp
    try with_reducible rfl
  try simp only [Act.put, List.getElem_toArray, List.getElem_cons_zero, List.getElem_cons_succ, List.setIfInBounds_toArray, List.set_cons_zero, List.set_cons_succ]
  refine wpAnyH_take (i := 57) (v := ?_) rfl (by kernel_rfl) (by kernel_rfl) (by kernel_rfl) (fun _ _ _ h => h) (Or.inl ⟨by rfl, ?_⟩) (by assumption) ?_
  rotate_left
  · intro w' hSw
    try dsimp only at hSw
    go_simp
    try with_reducible rfl
  try simp only [Act.put, List.getElem_toArray, List.getElem_cons_zero, List.getElem_cons_succ, List.setIfInBounds_toArray, List.set_cons_zero, List.set_cons_succ]
  refine wpAnyH_done (by kernel_rfl) ?_ _
  try go_wp2
  go_ret
  exact ⟨rfl, HB.out⟩
end Go.Proofs.YtbdoekffadmejaaGreatDoor
