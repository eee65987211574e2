/-
  The statement StableFull: as many as there are slots are taken, and one more when one was freed.
  Conditions: none on the input.
-/
import Derived.Test.YtejjobemafdlbaaSbj
namespace Go.Proofs.Ytejjobemafdlbaa.stableFull
open Go.ChangeShapes Go.WideShapes Go.ChangeAt Go.RowKit
set_option linter.unusedVariables false

/-- the handles of the first j slots -/
def hl (j : Nat) : List Int := (List.range j).map fun i : Nat => 256 + (i : Int)
theorem hl_succ (j : Nat) : hl (j + 1) = hl j ++ [256 + (j : Int)] := by simp [hl, List.range_succ]
theorem hl_len (j : Nat) : (hl j).length = j := by simp [hl]
theorem hl_get {j k : Nat} (h : k < j) : (hl j).getD k 0 = 256 + (k : Int) := by simp [hl, h]
set_option maxRecDepth 100000 in
set_option maxHeartbeats 8000000 in
theorem walk (a c : Int) (w : World) (ha : 0 ≤ a ∧ a ≤ 255) (hc : 0 ≤ c ∧ c ≤ 255) :
    Calls Try.prog 6 #[.int .u8 a, .int .u8 c] w fun e w' => e = .returned (.bool true) ∧ Below w.heap.size w w' := by
  obtain ⟨n, hn, h1n⟩ : ∃ n : Nat, a + 1 = n ∧ 1 ≤ n ∧ n ≤ 256 := ⟨(a + 1).toNat, by omega, by omega⟩
  have NW := new_any w n h1n
  have hw1 : IntKind.i64.wrap (a + 1) = (n : Int) := by rw [IntKind.wrap_i64]; omega
  obtain ⟨k, hk, hkn⟩ : ∃ k : Nat, c % n = k ∧ k < n := ⟨(c % n).toNat, by have := Int.emod_nonneg c (show (n : Int) ≠ 0 by omega); omega, by have := Int.emod_lt_of_pos c (show (0 : Int) < n by omega); have := Int.emod_nonneg c (show (n : Int) ≠ 0 by omega); omega⟩
  have hrem : c.tmod n = k := by rw [Int.tmod_eq_emod_of_nonneg hc.1]; exact hk
  have FF := Hid.mk (full_facts hkn h1n.2)
  obtain ⟨i0, hi, hz0, hz1, hz2⟩ := info_parts info3
  go_enter Try.func6, Try.ntmps6
  go_wp2_with (first
    | (go_at_call 8; refine NW.mono ?_; clear NW; rintro e w1 ⟨s, sb, rfl, H1, B1⟩; have AW := awake_any w1; have HH1 := Hid.mk H1; have HB1 := Hid.mk B1; clear H1 B1)
    | (go_at_call 10; refine AW.mono ?_; clear AW; rintro e w2 ⟨rfl, B2⟩; have HH2 := Hid.mk (HH1.out.later B2); have HB2 := Hid.mk (HB1.out.trans (B2.mono HB1.out.size)); clear B2))
  obtain ⟨m, hm⟩ : ∃ m, w2.heap.size = m := ⟨_, rfl⟩
  have hsm : s < m ∧ sb < m := by have := HH2.out.lt; omega
  have hmm : Hid (w.heap.size ≤ m ∧ m ≤ w2.heap.size) := ⟨by have := HB2.out.size; omega, by omega⟩
  have hlo := HH2.out.lo
  rw [fill_zero] at HH2
  have HR2 : Hid (RowS w2 m 3 1 (.slice none 0 0) 0 (ints (hl 0))) := ⟨.inl ⟨rfl, rfl, none, rfl⟩⟩
  have HM2 : Hid (m ≤ w2.heap.size) := ⟨hmm.out.2⟩
  clear hm HH1 HB1
  go_loopw [9, 8] (fun i l wr => ∃ (j : Nat) (ga : Option Addr) (cap : Nat), i = .int .i64 j ∧ j ≤ n ∧ l = .slice ga j cap ∧ Hid (Tb w.heap.size wr s sb n 1 (fill j) (fun _ => 1)) ∧ Hid (RowS wr m 3 1 (.slice ga j cap) j (ints (hl j))) ∧ Hid (Below w.heap.size w wr) ∧ Hid (m ≤ wr.heap.size)) (fun i _ _ => n - (intOf i).toNat)
  case atStart => exact ⟨0, none, 0, rfl, Nat.zero_le _, rfl, HH2, HR2, HB2, HM2⟩
  case round =>
    obtain ⟨j, ga, cap, rfl, hj, rfl, HT, HR, HB, HM⟩ := hrel
    clear HH2 HR2 HB2 HM2
    by_cases hlt : j < n
    · have hlt' : (j : Int) < n := by omega
      have MK := make_any HT.out (by omega) ((j : Int) + 1)
      obtain ⟨e1, e2, e3⟩ := fill_make hlt h1n.2
      rw [e1, e2, e3] at MK
      clear e1 e2 e3
      go_wp2_with (first
        | (go_at_call 11; refine MK.mono ?_; clear MK; rintro e w3 ⟨rfl, H3, K3⟩; have HH3 := Hid.mk H3; have hs3 : Hid (m ≤ w3.heap.size) := ⟨Nat.le_trans HM.out K3.size⟩; have HB3 := Hid.mk (HB.out.trans (K3.bel hlo.2 hlo.2 HB.out.size)); have HR3 := Hid.mk (HR.out.kx K3 hsm.2 hsm.2); have hm3 := Nat.le_trans HM.out K3.size; have HRl : Hid (RowS (w3.alloc (Obj.cells #[.int .i64 (256 + (j : Int))] 3)) m 3 1 (.slice ga j cap) j (ints (hl j))) := ⟨HR3.out.below ((Below.refl _ _).alloc (Nat.le_refl _) _)⟩; clear H3 K3)
        | (at_builtin; refine wpList_append_T rfl _ _ 31 rfl m 3 i0 (.int .i64 0) 1 8 Try.underlying31 hi hz0 hz1 hz2 rfl (by decide) (.slice ga j cap) j (ints (hl j)) rfl HRl.out (some ⟨w3.heap.size, 0, none⟩) 1 1 [.int .i64 (256 + (j : Int))] rfl rfl (fun _ => ⟨_, rfl, news_new w3 _⟩) (one_new _) (j + 1) rfl (ints (hl (j + 1))) (by rw [hl_succ]; simp [ints]) (by unfold maxLen; omega) (by omega) (by simp; omega) ?_; intro ga1 cap1 w5 hown5 hgr5; have HB5 := Hid.mk (row_below HR3.out (Below.refl m w3) hm3 hgr5); have HO5 := Hid.mk hown5; clear hown5 hgr5 HRl))
      go_roundw
      case rel => exact ⟨j + 1, ga1, cap1, by go_num, by omega, rfl, ⟨HH3.out.old HB5.out hsm⟩, HO5, ⟨HB3.out.trans (HB5.out.mono hmm.out.1)⟩, ⟨Nat.le_trans hs3.out HB5.out.size⟩⟩
      case measure => simp [intOf]; omega
    · obtain rfl : j = n := by omega
      obtain ⟨f1, f2, f3, f4, f5, f6, f7, f8⟩ := FF.out
      have MK := make_any HT.out (by omega) 1
      obtain ⟨g, cap', hv, hgm, cg⟩ := HR.out.get (hl_len _) k hkn
      rw [hl_get hkn] at cg
      simp only [Value.slice.injEq, true_and] at hv
      obtain ⟨rfl, rfl⟩ := hv
      have hg : g ≠ sb := by omega
      rw [f1, f2] at MK
      have hjk : (k : Int) < j := by omega
      have q1 : ((512 : Int) + (k : Int) != 256 + (k : Int)) = true := by simp
      have q2 : ((512 : Int) + (k : Int)).tmod 256 = k := by rw [Int.tmod_eq_emod_of_nonneg (by omega)]; omega
      have q3 : ((512 : Int) + (k : Int)) % 256 = k := by omega
      have hk0 : (0 : Int) ≤ (k : Int) := by omega
      have HF := Hid.mk (show _ ∧ _ ∧ _ ∧ _ ∧ _ ∧ _ from ⟨f3, f4, f5, f6, f7, f8⟩)
      have HC := Hid.mk cg
      clear f1 f2 f3 f4 f5 f6 f7 f8 FF HR
      go_wp2_with (first
        | (go_at_call 23; refine LN.mono ?_; clear LN; rintro e w8 ⟨rfl, B8⟩; have B9 := HB7.out.trans (B8.mono HB7.out.size); clear B8)
        | (go_at_call 15; refine GT.mono ?_; clear GT; rintro e w7 ⟨rfl, B7⟩; have cg7 := old_cells HC5.out B7; have LN := len_any (HH5.out.later B7); rw [HF.out.2.2.2.2.2] at LN; have HB7 := Hid.mk (HB5.out.trans (B7.mono HB5.out.size)); clear B7)
        | (go_at_call 13; refine FE.mono ?_; clear FE; rintro e w4 ⟨rfl, H4, K4⟩; have HC4 := Hid.mk (cell_kx HC3.out K4 hg); have MK2 := make_any H4 (by omega) 9; rw [HF.out.2.1, HF.out.2.2.1] at MK2; have HB4 := Hid.mk (HB3.out.trans (K4.bel hlo.2 hlo.2 HB3.out.size)); clear H4 K4)
        | (go_at_call 11; refine MK2.mono ?_; clear MK2; rintro e w5 ⟨rfl, H5, K5⟩; have HC5 := Hid.mk (cell_kx HC4.out K5 hg); have GT := get_any H5 (512 + (k : Int)) (by omega); rw [HF.out.2.2.2.1, HF.out.2.2.2.2.1] at GT; have HH5 := Hid.mk H5; have HB5 := Hid.mk (HB4.out.trans (K5.bel hlo.2 hlo.2 HB4.out.size)); clear H5 K5)
        | (go_at_call 11; refine MK.mono ?_; clear MK; rintro e w3 ⟨rfl, H3, K3⟩; have HC3 := Hid.mk (cell_kx HC.out K3 hg); have cg3 := HC3.out; have FE := free13_any H3 (by omega) (256 + (k : Int)) (by omega); rw [HF.out.1] at FE; have HB3 := Hid.mk (HB.out.trans (K3.bel hlo.2 hlo.2 HB.out.size)); clear H3 K3))
      go_ret
      exact ⟨rfl, B9⟩


set_option maxRecDepth 100000 in
theorem lifted (os : Os) (started : os.Started) (H : Type) (enc : TypeId × Value → H) :
    ReturnsInHanded {} Try.checked os 6 .any (Rows.stableFullSpec.pre6 enc Try.prog Try.f6 Rows.stableFullRow.domain false) (Rows.stableFullSpec.post enc Try.prog Try.f6 false true false false) := by
  refine returnsInHanded_of_change (C := Try.checked) own started (by kernel_rfl) Try.func6
    (ChangeSpec.witness6 (enc := enc) (C := Try.checked) false ⟨#[], #[.int .u8 0, .int .u8 0], []⟩ 8 (by kernel_rfl) (by kernel_rfl) (by kernel_rfl) (by kernel_rfl)) ?_
  intro W base args ds gs before hval0 hW hcnd _
  have hval : ∀ (j : Nat) t v, Try.f6.params[j]? = some t → args[j]? = some v → Value.okWide Try.prog W .any base t v := hval0
  have hW' := hW
  obtain ⟨p, q, hA0, hV, rfl, hfz, hnd⟩ := hW
  have hA : DataW.TrodAll enc Try.prog W 0 (fun _ => true) true Try.f6.params.toList args.toList ds p := hA0
  rw [Try.params6] at hA hval
  obtain ⟨v0, vs0, d0, ds0, p0, q0, hargs, rfl, rfl, h0, r0⟩ := trodAll_cons hA
  obtain ⟨v1, vs1, d1, ds1, p1, q1, rfl, rfl, rfl, h1, r1⟩ := trodAll_cons r0
  obtain ⟨rfl, rfl, rfl⟩ := trodAll_nil r1
  obtain rfl : args = #[v0, v1] := by cases args; simp_all
  obtain ⟨rfl, rfl⟩ := trodVars_none hV
  have t0 := h0
  have lt0 : ∀ x ∈ p0, x.block < W.heap.size := by obtain ⟨m, hm⟩ := t0; exact DataW.trod_lt m _ _ _ hm
  obtain ⟨a0, rfl, hd0, hp0, w0⟩ := open_int Try.underlying5 (hval 0 5 v0 rfl rfl) h0
  have t1 := h1
  have lt1 : ∀ x ∈ p1, x.block < W.heap.size := by obtain ⟨m, hm⟩ := t1; exact DataW.trod_lt m _ _ _ hm
  obtain ⟨a1, rfl, hd1, hp1, w1⟩ := open_int Try.underlying5 (hval 1 5 v1 rfl rfl) h1
  clear hA0 hval0
  refine (walk a0 a1 W (bounds_u8 w0) (bounds_u8 w1)).mono fun e W' ⟨he, bel⟩ => ?_
  subst he
  exact ⟨_, rfl, _, _, _, [], _, [], hW', trodAll_mk1 (shut_bool Try.underlying4 _), (trodAll_cons_mk (Below.trod laidOut (by kernel_rfl) (of_decide_eq_true (by kernel_rfl)) t0 bel lt0) (trodAll_cons_mk (Below.trod laidOut (by kernel_rfl) (of_decide_eq_true (by kernel_rfl)) t1 bel lt1) trodAll_mk0)), rfl, bel.frame _, fun h => by cases h⟩

theorem over : Rows.stableFullRow.holds Try.pinned (OpenSpec.ofChange Rows.stableFullSpec) :=
  OpenClaim.holds_of_wide 6 Try.f6 rfl rfl rfl rfl rfl rfl rfl ⟨rfl, rfl, rfl, rfl, rfl⟩ rfl rfl rfl rfl rfl (by kernel_rfl) Try.func6 (by kernel_rfl)
    (of_decide_eq_true (by kernel_rfl)) (by unfold Func.isWrapper; first | (rw [if_pos (by decide +kernel)]; kernel_rfl) | (rw [if_neg (by decide +kernel)]; exact ⟨rfl, rfl⟩))
    (fun os started H enc _ => lifted os started H enc)
end Go.Proofs.Ytejjobemafdlbaa.stableFull

namespace Go.Proofs.Ytejjobemafdlbaa
theorem stableFull_holds : Rows.StableFullSaid := stableFull.over
#print axioms stableFull_holds
end Go.Proofs.Ytejjobemafdlbaa
