/-
  The statement PoolStays: what a range tells is as it was when it was asked for, whatever is done meanwhile.
  Conditions: none on the input.
-/
import Derived.Test.YtaeehhonahhelaaMade
import Derived.Test.YtaeehhonahhelaaPairs
import Derived.Test.YtaeehhonahhelaaSame
import Derived.Test.YtaeehhonahhelaaStays
namespace Go.Proofs.Ytaeehhonahhelaa.poolStays
open Go.ChangeShapes Go.WideShapes Go.ChangeAt Go.RowKit
set_option linter.unusedVariables false

theorem own_ge1 {w : World} {n g m c : Nat} {xs : List Value} (h : w.ownsRow n 3 1 (.slice (some ⟨g, 0, none⟩) m c) m xs) : n ≤ g := (h.lt g rfl).1
/-- A list stays, whatever has turned in one block that lies ahead of it. -/
theorem sl_old {w w' : World} {n b : Nat} {v : Value} {xs : List Int} (h : w.ownsRow n 3 1 v xs.length (ints xs)) (hb : b < n) (sz : w.heap.size ≤ w'.heap.size) (K : ∀ k, k < w.heap.size → k ≠ b → w'.heap[k]? = w.heap[k]?) : Sl w' v xs := by
  rcases sl_of h with h | ⟨g, c, rfl, lg, hc⟩
  · exact .inl h
  · have := own_ge1 h
    exact .inr ⟨g, c, rfl, by omega, fun j hj => (World.cell?_of_block (w := w) (a := ⟨g, j, none⟩) (K g lg (by omega))).trans (hc j hj)⟩
theorem asked_old {w w' : World} {m B N b : Nat} {f : Nat → Int} {r : Bool} (h : Asked w m B f N r) (hb : b < m) (K : ∀ k, k < w.heap.size → k ≠ b → w'.heap[k]? = w.heap[k]?) : Asked w' m B f N r := by
  obtain ⟨g, c, hg, L⟩ := h.ex
  have l := h.lo
  exact ⟨⟨g, c, hg, L.stay ⟨K _ L.lt.1 (by omega), K _ L.lt.2.1 (by omega), K _ L.lt.2.2 (by omega)⟩⟩, l, h.len⟩
theorem below_undrew {W w1 : World} (h : Below W.drew.heap.size W.drew w1) : Below W.heap.size W w1 := ⟨h.os, h.tape, h.output, h.size, h.block⟩
theorem one_new (w : World) : One (w.alloc (.cells #[.slice none 0 0] 38)) w.heap.size (w.alloc (.cells #[.slice none 0 0] 38)).heap.size [] :=
  ⟨⟨_, heap_alloc_new _ _, World.ownsRow_nil _ _ _ _⟩, by simp, Nat.le_refl _⟩
theorem alloc_one (w : World) (o : Obj) : Below w.heap.size w (w.alloc o) := (Below.refl _ w).alloc (Nat.le_refl _) _

theorem asked_size {w : World} {m B N : Nat} {f : Nat → Int} {r : Bool} (h : Asked w m B f N r) : m ≤ w.heap.size := by have := h.lt; have := h.lo; omega
theorem bar_old {u w7 w9 : World} {o : Obj} {b : Nat} (D : Below u.heap.size u w7) (K : Bar w7.heap.size b (w7.alloc o).heap.size (w7.alloc o) w9) : ∀ k, k < u.heap.size → k ≠ b → w9.heap[k]? = u.heap[k]? := by
  intro k hk hb
  have := D.size
  exact (K.block k (by simp; omega) (by omega) hb).trans ((Below.heap_alloc _ _ _ (by omega)).trans (D.block k hk))
theorem bar_below {w w7 w9 : World} {o : Obj} (D : Below w.heap.size w w7) (K : Bar w7.heap.size w.heap.size (w7.alloc o).heap.size (w7.alloc o) w9) : Below w.heap.size w w9 := by
  have s := D.size
  have s2 := K.size
  simp at s2
  exact ⟨K.os.trans D.os, K.tape.trans D.tape, K.output.trans D.output, by omega, fun k hk => (K.block k (by simp; omega) (by omega) (by omega)).trans ((Below.heap_alloc _ _ _ (by omega)).trans (D.block k hk))⟩
theorem one_open {w9 w10 : World} {z n : Nat} {xs : List Int} (O : One w9 z n xs) (B : Below w9.heap.size w9 w10) : ∃ v, w10.cell? ⟨z, 0, none⟩ = some v ∧ Sl w10 v xs := by
  obtain ⟨⟨va, ba, oa⟩, le, sz⟩ := O
  refine ⟨va, ?_, (sl_of oa).later B⟩
  rw [Joins.cell_of_block ((B.block z (by omega)).trans ba)]
  rfl
theorem range_all {w w1 w2 w4 w6 w7 : World} {Zg N : Nat} {f : Nat → Int} (HS : Hid (w.heap.size < w2.heap.size ∧ w.heap.size + 1 < w1.heap.size))
    (HP : Hid (Has 58 w6 (w.heap.size + 1) w.heap.size f N ∧ Good f N ∧ w6.heap[w1.heap.size]? = some (.cells #[.pointer (some ⟨w.heap.size + 1, 0, none⟩)] 23 (0, 0))))
    (HGq : Hid (Asked w6 w4.heap.size Zg f N false ∧ w2.heap.size ≤ w4.heap.size)) (B7 : Below w6.heap.size w6 w7) :
    Calls Try.prog 39 #[.func (.func 24) #[] #[.pointer (some ⟨w7.heap.size, 0, none⟩), .pointer (some ⟨w1.heap.size, 0, none⟩)], .pointer (some ⟨Zg, 0, none⟩), .pointer (some ⟨Zg + 1, 0, none⟩)] (w7.alloc (.cells #[.slice none 0 0] 38)) fun e W' => (∃ v, e = .returned v) ∧ One W' w7.heap.size (w7.alloc (.cells #[.slice none 0 0] 38)).heap.size (fs (parts f N false)) ∧ Bar w7.heap.size w.heap.size (w7.alloc (.cells #[.slice none 0 0] 38)).heap.size (w7.alloc (.cells #[.slice none 0 0] 38)) W' := by
  obtain ⟨s1, s2⟩ := HS.out
  obtain ⟨H6, G, Y6⟩ := HP.out
  obtain ⟨Q, s3⟩ := HGq.out
  have l6 := (Array.getElem?_eq_some_iff.1 Y6).1
  have D := alloc_one w7 (.cells #[.slice none 0 0] 38)
  have D8 := B7.trans (D.mono B7.size)
  obtain ⟨g, c, hg, L⟩ := Q.ex
  have ll := L.lt
  have s7 := B7.size
  have lo := Q.lo
  exact drops_ok Q.len (L.below D8) (one_new w7) ((D8.block _ l6).trans Y6) (H6.later D8) G (by simp; omega) (by simp; omega) (by simp; omega) (by omega) (by omega) (by omega) (by omega) ⟨by simp; omega, by omega, by omega⟩ ⟨by simp; omega, by omega, by omega⟩ ⟨by simp; omega, by omega, by omega⟩

set_option maxRecDepth 100000 in
set_option maxHeartbeats 16000000 in
theorem walk (a0 : Int) (ad : Option Addr) (len cap : Nat) (w : World) (h0 : 0 ≤ a0 ∧ a0 ≤ 255) (hl : IsActs w ad len) :
    Calls Try.prog 7 #[.int .u8 a0, .slice ad len cap] w fun e w' => e = .returned (.bool true) ∧ Below w.heap.size w w' := by
  obtain ⟨k, rfl⟩ : ∃ k : Nat, a0 = k := ⟨a0.toNat, by omega⟩
  have MD := made_any k (by omega) ad len cap w hl
  have hk : k ≤ 255 := by omega
  clear hl h0
  go_enter Try.func7, Try.ntmps7
  go_wp2_with (first
    | (go_at_call 14; refine MD.mono ?_; rintro e w1 ⟨rfl, ⟨f, H1, G⟩, B1⟩; clear MD)
    | (go_at_call 11; refine (awake_any _).mono ?_; rintro e w2 ⟨rfl, B2⟩; have Y2 := (B2.block w1.heap.size (by simp)).trans (heap_alloc_new w1 _); have D2 := (alloc_one w1 _).trans (B2.mono (alloc_one w1 _).size); have H2 := H1.later D2; have E2 := B1.trans (D2.mono B1.size); have s1 := H1.lt; have c2 : w2.cell? ⟨w1.heap.size, 0, none⟩ = some (.pointer (some ⟨w.heap.size + 1, 0, none⟩)) := (by rw [Joins.cell_of_block Y2]; rfl); clear B2 D2 H1)
    | (go_at_call 16; refine (groups_ok H2).mono ?_; rintro e w3 ⟨Z3, rfl, Q3, B3⟩; have P3 := pairs_ok Q3)
    | (go_at_call 15; refine P3.mono ?_; clear P3; rintro e w4 ⟨va, vb, n4, rfl, hn4, L4, B4⟩; have D4 := B3.trans (B4.mono B3.size); have H4 := H2.later D4; have Y4 := (D4.block w1.heap.size (World.block_lt_of_cell? _ _ c2)).trans Y2; have E4 := E2.trans (D4.mono E2.size); have c4 : w4.cell? ⟨w1.heap.size, 0, none⟩ = some (.pointer (some ⟨w.heap.size + 1, 0, none⟩)) := (by rw [Joins.cell_of_block Y4]; rfl)))
  go_region_held3 (fun w' => w'.cell? ⟨w1.heap.size, 0, none⟩ = some (.pointer (some ⟨w.heap.size + 1, 0, none⟩))) (go_keep) (first
    | (go_at_call 16; refine (groups_ok (H4.later ((Below.refl _ w4).drew))).mono ?_; rintro e w5 ⟨Zg, rfl, Qg, B5⟩; have D5 : Below w4.heap.size w4 w5 := below_undrew B5; have c5 : w5.cell? ⟨w1.heap.size, 0, none⟩ = some (.pointer (some ⟨w.heap.size + 1, 0, none⟩)) := (by rw [Joins.cell_of_block ((D5.block w1.heap.size (World.block_lt_of_cell? _ _ c4)).trans Y4)]; rfl))
    | (go_at_call 17; refine (runs_ok (H4.later D5)).mono ?_; rintro e w6 ⟨Zr, rfl, Qr, B6⟩; have D6 := D5.trans (B6.mono D5.size); have Y6 := (D6.block w1.heap.size (World.block_lt_of_cell? _ _ c4)).trans Y4; have c6 : w6.cell? ⟨w1.heap.size, 0, none⟩ = some (.pointer (some ⟨w.heap.size + 1, 0, none⟩)) := (by rw [Joins.cell_of_block Y6]; rfl); have Qg6 := Qg.later B6; have H6 := H4.later D6; have E6 := E4.trans (D6.mono E4.size)))
  have sb : w.heap.size < w2.heap.size := by have t : w1.heap.size < w2.heap.size := World.block_lt_of_cell? _ _ c2; omega
  have sn : w.heap.size + 1 < w1.heap.size := s1.1
  have lA : (fs (parts f (k + 1) false)).length ≤ 10000 := by rw [fs_length]; have := parts_len f (k + 1) false; omega
  have lC : (fs (parts f (k + 1) true)).length ≤ 10000 := by rw [fs_length]; have := parts_len f (k + 1) true; omega
  have lD : (ns (parts f (k + 1) true)).length ≤ 10000 := by rw [ns_length]; have := parts_len f (k + 1) true; omega
  have HX : Hid (Lists w4 n4 va vb (fs (parts f (k + 1) false)) (ns (parts f (k + 1) false)) ∧ w.heap.size < n4 ∧ Below w4.heap.size w4 w6) := ⟨L4, by have := D4.size; have := B3.size; omega, D6⟩
  have HR : Hid (Asked w6 w5.heap.size Zr f (k + 1) true ∧ w.heap.size < w5.heap.size) := ⟨Qr, by have := D4.size; have := D5.size; omega⟩
  have HGq : Hid (Asked w6 w4.heap.size Zg f (k + 1) false ∧ w2.heap.size ≤ w4.heap.size) := ⟨Qg6, D4.size⟩
  have HP : Hid (Has 58 w6 (w.heap.size + 1) w.heap.size f (k + 1) ∧ Good f (k + 1) ∧ w6.heap[w1.heap.size]? = some (.cells #[.pointer (some ⟨w.heap.size + 1, 0, none⟩)] 23 (0, 0))) := ⟨H6, G, Y6⟩
  have HS : Hid (w.heap.size < w2.heap.size ∧ w.heap.size + 1 < w1.heap.size) := ⟨sb, sn⟩
  have HE : Hid (Below w.heap.size w w6) := E6
  have P6 := pairs_ok Qr
  have he : ∀ w : World, (binOp .eql 42 (.func (.func 39) #[] #[.pointer (some ⟨Zg, 0, none⟩), .pointer (some ⟨Zg + 1, 0, none⟩)]) .nilFunc).run Try.prog w = .ok (.bool false) w := fun _ => rfl
  clear sb sn s1 B1 Y2 H2 E2 c2 Q3 B3 hn4 L4 B4 D4 H4 Y4 E4 c4 Qg B5 D5 c5 Qr B6 D6 Y6 c6 Qg6 H6 E6 G
  go_wp2_with (first
    | (go_at_call 15; refine P6.mono ?_; clear P6; rintro e w7 ⟨vc, vd, n7, rfl, hn7, L7, B7⟩; have P8 := range_all HS HP HGq B7)
    | (go_at_call 39; refine P8.mono ?_; clear P8; rintro e w9 ⟨⟨u, rfl⟩, O9, K9⟩; have P9 := pairs_ok (asked_old (HR.out.1.later B7) HR.out.2 (bar_old (Below.refl _ w7) K9)))
    | (go_at_call 15; refine P9.mono ?_; clear P9; rintro e w10 ⟨vx, vy, n10, rfl, hn10, L10, B10⟩; obtain ⟨vbb, c10, SB⟩ := one_open O9 B10; have S1 := same_true ((sl_old HX.out.1.oa HX.out.2.1 (by have := HX.out.2.2.size; have := B7.size; have := K9.size; simp at this; omega) (bar_old (HX.out.2.2.trans (B7.mono HX.out.2.2.size)) K9)).later B10) SB lA)
    | (go_at_call 21; refine S1.mono ?_; clear S1; rintro e w11 ⟨rfl, B11⟩; have S2 := same_true (((sl_old L7.oa (Nat.lt_of_lt_of_le HR.out.2 (Nat.le_trans (asked_size HR.out.1) hn7)) (by have := K9.size; simp at this; omega) (bar_old (Below.refl _ w7) K9)).later B10).later B11) ((sl_of L10.oa).later B11) lC)
    | (go_at_call 21; refine S2.mono ?_; clear S2; rintro e w12 ⟨rfl, B12⟩; have S3 := same_true ((((sl_old L7.ob (Nat.lt_of_lt_of_le HR.out.2 (Nat.le_trans (asked_size HR.out.1) hn7)) (by have := K9.size; simp at this; omega) (bar_old (Below.refl _ w7) K9)).later B10).later B11).later B12) (((sl_of L10.ob).later B11).later B12) lD)
    | (go_at_call 21; refine S3.mono ?_; clear S3; rintro e w13 ⟨rfl, B13⟩))
  go_ret
  refine ⟨rfl, ?_⟩
  have E7 := HE.out.trans (B7.mono HE.out.size)
  have E9 := bar_below E7 K9
  have E10 := E9.trans (B10.mono E9.size)
  have E11 := E10.trans (B11.mono E10.size)
  have E12 := E11.trans (B12.mono E11.size)
  exact E12.trans (B13.mono E12.size)


set_option maxRecDepth 100000 in
theorem lifted (os : Os) (started : os.Started) (H : Type) (enc : TypeId × Value → H) :
    ReturnsInHanded {} Try.checked os 7 .any (Rows.poolStaysSpec.pre6 enc Try.prog Try.f7 Rows.poolStaysRow.domain false) (Rows.poolStaysSpec.post enc Try.prog Try.f7 false true false false) := by
  refine returnsInHanded_of_change (C := Try.checked) own started (by kernel_rfl) Try.func7
    (ChangeSpec.witness6 (enc := enc) (C := Try.checked) false ⟨#[], #[.int .u8 0, .slice none 0 0], []⟩ 8 (by kernel_rfl) (by kernel_rfl) (by kernel_rfl) (by kernel_rfl)) ?_
  intro W base args ds gs before hval0 hW hcnd _
  have hval : ∀ (j : Nat) t v, Try.f7.params[j]? = some t → args[j]? = some v → Value.okWide Try.prog W .any base t v := hval0
  have hW' := hW
  obtain ⟨p, q, hA0, hV, rfl, hfz, hnd⟩ := hW
  have hA : DataW.TrodAll enc Try.prog W 0 (fun _ => true) true Try.f7.params.toList args.toList ds p := hA0
  rw [Try.params7] at hA hval
  obtain ⟨v0, vs0, d0, ds0, p0, q0, hargs, rfl, rfl, h0, r0⟩ := trodAll_cons hA
  obtain ⟨v1, vs1, d1, ds1, p1, q1, rfl, rfl, rfl, h1, r1⟩ := trodAll_cons r0
  obtain ⟨rfl, rfl, rfl⟩ := trodAll_nil r1
  obtain rfl : args = #[v0, v1] := by cases args; simp_all
  obtain ⟨rfl, rfl⟩ := trodVars_none hV
  have t0 := h0
  have lt0 : ∀ x ∈ p0, x.block < W.heap.size := by obtain ⟨m, hm⟩ := t0; exact DataW.trod_lt m _ _ _ hm
  obtain ⟨a0, rfl, hd0, hp0, w0⟩ := open_int Try.underlying5 (hval 0 5 v0 rfl rfl) h0
  have t1 := h1
  have lt1 : ∀ x ∈ p1, x.block < W.heap.size := by obtain ⟨m, hm⟩ := t1; exact DataW.trod_lt m _ _ _ hm
  obtain ⟨ad1, len1, cap1, rfl⟩ := okWide_slice Try.underlying22 (hval 1 22 v1 rfl rfl)
  have w1 := open_acts h1
  clear hA0 hval0
  refine (walk a0 ad1 len1 cap1 W (bounds_u8 w0) w1).mono fun e W' ⟨he, bel⟩ => ?_
  subst he
  exact ⟨_, rfl, _, _, _, [], _, [], hW', trodAll_mk1 (shut_bool Try.underlying4 _), (trodAll_cons_mk (Below.trod laidOut (by kernel_rfl) (of_decide_eq_true (by kernel_rfl)) t0 bel lt0) (trodAll_cons_mk (Below.trod laidOut (by kernel_rfl) (of_decide_eq_true (by kernel_rfl)) t1 bel lt1) trodAll_mk0)), rfl, bel.frame _, fun h => by cases h⟩

theorem over : Rows.poolStaysRow.holds Try.pinned (OpenSpec.ofChange Rows.poolStaysSpec) :=
  OpenClaim.holds_of_wide 7 Try.f7 rfl rfl rfl rfl rfl rfl rfl ⟨rfl, rfl, rfl, rfl, rfl⟩ rfl rfl rfl rfl rfl (by kernel_rfl) Try.func7 (by kernel_rfl)
    (of_decide_eq_true (by kernel_rfl)) (by unfold Func.isWrapper; first | (rw [if_pos (by decide +kernel)]; kernel_rfl) | (rw [if_neg (by decide +kernel)]; exact ⟨rfl, rfl⟩))
    (fun os started H enc _ => lifted os started H enc)
end Go.Proofs.Ytaeehhonahhelaa.poolStays

namespace Go.Proofs.Ytaeehhonahhelaa
theorem poolStays_holds : Rows.PoolStaysSaid := poolStays.over
#print axioms poolStays_holds
end Go.Proofs.Ytaeehhonahhelaa
