/- The law's own function that keeps what it was asked; what Map tells with it. -/
import Derived.Test.YtglimbpnekephaaDoorApp
namespace Go.Proofs.YtglimbpnekephaaDoor
open Go.RowKit
set_option linter.unusedVariables false
set_option linter.unusedSimpArgs false

set_option maxHeartbeats 1000000 in
theorem fn25_ok {W : World} {y base : Nat} {v : Value} {xs : List Int} (Y : Bx W y #[v] 34) (R : Ri W base v xs) (hy : y < base) (hb : base ≤ W.heap.size) (hl : xs.length ≤ 65536) (p : Int) :
    Calls Tryd.prog 25 #[.int .i64 p, .pointer (some ⟨y, 0, none⟩)] W fun e w' => e = .returned (.int .i64 ((xs.length : Int) + 1)) ∧ (∃ v', Bx w' y #[v'] 34 ∧ Ri w' base v' (xs ++ [p])) ∧ Kz base y W w' := by
  obtain ⟨ga, cap, rfl, hcap⟩ := R.form
  have c0 : W.cell? ⟨y, 0, none⟩ = some (.slice ga xs.length cap) := Y.cell 0
  have HRl : Hid ((W.alloc (Obj.cells #[.int .i64 p] 3)).ownsRow base 3 1 (.slice ga xs.length cap) xs.length (rowI xs)) := ⟨R.later (by go_grown)⟩
  have HNW : Hid ((W.alloc (Obj.cells #[.int .i64 p] 3)).heap[W.heap.size]? = some (Obj.cells #[.int .i64 p] 3)) := ⟨heap_alloc_new _ _⟩
  have HY := Hid.mk Y
  have HR := Hid.mk R
  clear Y R
  go_enter Tryd.func25, Tryd.ntmps25
  go_wp2_with (at_builtin; obtain ⟨i0, hi, hz0, hz1, hz2⟩ := info_parts info3; refine wpList_append_own _ rfl _ _ 34 rfl base 3 i0 _ 1 8 Tryd.underlying34 hi hz0 hz1 hz2 rfl (by decide) (.slice ga xs.length cap) xs.length (rowI xs) rfl HRl.out ⟨W.heap.size, 0, none⟩ 1 1 [.int .i64 p] rfl rfl (World.news_of_block HNW.out) (by simp [Value.oneCell']) (by show _ ≤ 9223372036854775807; omega) (by omega) (by simp; omega) ?_; intro v2 w5 hown' hgrow' _; have RM := ri_more HY.out HR.out hy hb hown' hgrow'; obtain ⟨g', cap', rfl⟩ := ownsRow_succ hown'; clear hi hz0 hz1 hz2; have y5 := RM.2.2.2.2.1.cell 0; have y6 := RM.2.2.2.2.1.z 0; have HRM := Hid.mk RM; have y7 : (w5.setCell ⟨y, 0, none⟩ (.slice (some ⟨g', 0, none⟩) (xs.length + 1) cap')).cell? ⟨y, 0, none⟩ = some (.slice (some ⟨g', 0, none⟩) (xs.length + 1) cap') := RM.1.cell 0; clear RM hown' hgrow')
  go_ret
  obtain ⟨m1, m2, m3, m4, m5, o1, o2, o3, o4⟩ := HRM.out
  exact ⟨retInt (by omega), ⟨_, m1, m2⟩, ⟨o1, o2, o3, by simpa using o4, m3⟩⟩
set_option maxHeartbeats 1000000 in
theorem tu25 {W : World} {y base : Nat} {v : Value} {xs : List Int} (Y : Bx W y #[v] 34) (R : Ri W base v xs) (hy : y < base) (hb : base ≤ W.heap.size) (hl : xs.length ≤ 65536) (p : Int) (hp : 0 ≤ p ∧ p ≤ 524288) :
    Calls Tryd.prog 51 #[.int .u64 p, .func (.func 25) #[] #[.pointer (some ⟨y, 0, none⟩)]] W fun e w' => e = .returned (.int .u64 ((xs.length : Int) + 1)) ∧ (∃ v', Bx w' y #[v'] 34 ∧ Ri w' base v' (xs ++ [p])) ∧ Kz base y W w' := by
  have F := fn25_ok Y R hy hb hl p
  have WR := fun W' => wrong_any ((xs.length : Int) + 1) W'
  have hw : wrongP ((xs.length : Int) + 1) = false := by simp [wrongP]; omega
  rw [hw] at WR
  have hp1 := hp.1
  have hp2 := hp.2
  generalize hn : xs.length = n at *
  clear hw hn Y R
  go_enter Tryd.func51, Tryd.ntmps51
  go_wp2_with (first
    | (go_at_call 25; refine F.mono ?_; clear F; rintro e w1 ⟨rfl, h1, h2⟩)
    | (go_at_call 38; refine (WR _).mono ?_; rintro e w' ⟨rfl, hw⟩; subst w'))
  go_ret
  exact ⟨rfl, h1, h2⟩
/-- the numbers from 1 on -/
def ups (n : Nat) : List Int := (List.range n).map fun i : Nat => (i : Int) + 1
theorem ups_get (n i : Nat) (h : i < n) : (ups n).getD i 0 = (i : Int) + 1 := by simp [ups, List.getD_eq_getElem?_getD, h]
theorem ups_len (n : Nat) : (ups n).length = n := by simp [ups]
def Jm (y : Nat) (rs : List Fr) (base i : Nat) (W : World) : Prop := (∃ v, Bx W y #[v] 34 ∧ Ri W base v ((ptrs rs).take i)) ∧ y < base
theorem ptrs_ok : ∀ rs : List Fr, (∀ f ∈ rs, Okf f) → ∀ v ∈ ptrs rs, 0 ≤ v ∧ v ≤ 524288
  | [], _, v, hv => by cases hv
  | f :: r, h, v, hv => by
    rcases List.mem_append.1 hv with q | q
    · exact ptrs_ok r (fun g hg => h g (by simp [hg])) v q
    · exact (h f (by simp)).p v q
theorem map25 {w : World} {p a b F N y : Nat} {ws : List Int} {rs : List Fr} (h : Ss w p a b ws F N 0 rs) (Y : Bx w y #[.slice none 0 0] 34) (yp : y ≠ p) (ya : y ≠ a) (yb : y ≠ b) :
    Calls Tryd.prog 24 #[.pointer (some ⟨p, 0, none⟩), .func (.func 25) #[] #[.pointer (some ⟨y, 0, none⟩)]] w fun e w' => (∃ u, e = .returned u) ∧ (∃ ws', Ss w' p a b ws' F N 0 (refill rs (ups (ptrs rs).length)) ∧ Bes F N ws ws') ∧ (∃ v, Bx w' y #[v] 34 ∧ Ri w' w.heap.size v (ptrs rs)) ∧ K3 p b y w w' := by
  have pl := ptrs_le rs
  have hU := h.stk.un
  have hN := h.stk.nn
  have yl := Y.lt
  have pok : ∀ v ∈ ptrs rs, 0 ≤ v ∧ v ≤ 524288 := ptrs_ok rs h.ok
  refine Calls.mono (map_ok h Y.lt yp ya yb 25 (ups (ptrs rs).length) (ups_len _) (fun v hv => ?_) (Jm y rs) (fun W hs hy => ⟨⟨_, hy.trans Y, by simpa using Ri.nil W W.heap.size⟩, by omega⟩) (fun base i W W' hj hs hy hk => ?_) (fun base i W hb hbs hj hi => ?_)) ?_
  · simp only [ups, List.mem_map, List.mem_range] at hv
    obtain ⟨i, hi, rfl⟩ := hv
    omega
  · obtain ⟨⟨v, h1, h2⟩, h3⟩ := hj
    exact ⟨⟨v, hy.trans h1, h2.same fun g cs t z hg hm => hk g hg (Array.getElem?_eq_some_iff.1 hm).1⟩, h3⟩
  · obtain ⟨⟨v, h1, h2⟩, h3⟩ := hj
    have hl : ((ptrs rs).take i).length = i := by simp; omega
    have T := tu25 h1 h2 h3 hbs (by omega) ((ptrs rs).getD i 0) (by
      simp only [List.getD_eq_getElem?_getD, List.getElem?_eq_getElem hi, Option.getD_some]
      exact pok _ (List.getElem_mem hi))
    rw [hl] at T
    rw [ups_get _ _ hi]
    refine T.mono ?_
    rintro e w' ⟨rfl, ⟨v', a1, a2⟩, K⟩
    refine ⟨rfl, ⟨⟨v', a1, ?_⟩, h3⟩, K⟩
    rw [List.take_succ_eq_append_getElem hi]
    simpa [List.getD_eq_getElem?_getD, List.getElem?_eq_getElem hi] using a2
  · rintro e w' ⟨he, hs, ⟨base, hb1, hb2, ⟨v, h1, h2⟩, h3⟩, K⟩
    refine ⟨he, hs, ⟨v, h1, ?_⟩, K⟩
    rw [List.take_of_length_le (Nat.le_refl _)] at h2
    refine ⟨h2.1, ?_⟩
    rcases h2.2 with hn | ⟨g, cap, cur, hv, hg, rest⟩
    · exact .inl hn
    · exact .inr ⟨g, cap, cur, hv, by omega, rest⟩
end Go.Proofs.YtglimbpnekephaaDoor
