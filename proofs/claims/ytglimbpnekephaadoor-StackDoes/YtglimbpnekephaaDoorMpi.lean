/- What the law turns a pointer by, in the stack and in the document's own; Map with it. -/
import Derived.Test.YtglimbpnekephaaDoorMpg
namespace Go.Proofs.YtglimbpnekephaaDoor
open Go.RowKit
set_option linter.unusedVariables false
set_option linter.unusedSimpArgs false

def byI (n p : Int) : Int := if n < -524288 ∨ 524288 < n ∨ p + n < 0 ∨ 524288 < p + n then 0 else p + n
theorem byI_ok (n p : Int) : 0 ≤ byI n p ∧ byI n p ≤ 524288 := by unfold byI; split <;> omega
def toI (n p : Int) : Int := if n < -524288 ∨ 524288 < n then -1 else p + n
theorem toI_wrong (n p : Int) (h : wrongP (toI n p) = true) : byI n p = 0 := by
  unfold toI at h; unfold byI; simp [wrongP] at h ⊢; split at h <;> intros <;> omega
theorem toI_right (n p : Int) (h : wrongP (toI n p) = false) : byI n p = toI n p := by
  unfold toI at *; unfold byI; simp [wrongP] at h ⊢; split at h <;> (try split) <;> omega
theorem turned_any (p n : Int) (hp : 0 ≤ p ∧ p ≤ 524288) (w : World) : Calls Tryd.prog 32 #[.int .i64 p, .int .i64 n] w fun e w' => e = .returned (.int .i64 (toI n p)) ∧ w' = w := by
  have p1 := hp.1
  have p2 := hp.2
  by_cases h1 : n < -524288
  · have e : toI n p = -1 := by unfold toI; rw [if_pos (.inl h1)]
    rw [e]
    clear e
    go_enter Tryd.func32, Tryd.ntmps32
    go_wp2
    go_ret
    exact ⟨rfl, rfl⟩
  · by_cases h2 : 524288 < n
    · have e : toI n p = -1 := by unfold toI; rw [if_pos (.inr h2)]
      rw [e]
      clear e
      go_enter Tryd.func32, Tryd.ntmps32
      go_wp2
      go_ret
      exact ⟨rfl, rfl⟩
    · have e : toI n p = p + n := by unfold toI; rw [if_neg (by omega)]
      rw [e]
      clear e
      go_enter Tryd.func32, Tryd.ntmps32
      go_wp2
      go_ret
      exact ⟨retInt (by omega), rfl⟩
theorem by_any (p n : Int) (hp : 0 ≤ p ∧ p ≤ 524288) (w : World) : Calls Tryd.prog 33 #[.int .i64 p, .int .i64 n] w fun e w' => e = .returned (.int .i64 (byI n p)) ∧ w' = w := by
  have p1 := hp.1
  have p2 := hp.2
  by_cases h1 : n < -524288
  · have e : byI n p = 0 := by unfold byI; rw [if_pos (.inl h1)]
    rw [e]
    clear e
    go_enter Tryd.func33, Tryd.ntmps33
    go_wp2
    go_ret
    exact ⟨rfl, rfl⟩
  · by_cases h2 : 524288 < n
    · have e : byI n p = 0 := by unfold byI; rw [if_pos (.inr (.inl h2))]
      rw [e]
      clear e
      go_enter Tryd.func33, Tryd.ntmps33
      go_wp2
      go_ret
      exact ⟨rfl, rfl⟩
    · by_cases h3 : p + n < 0
      · have e : byI n p = 0 := by unfold byI; rw [if_pos (.inr (.inr (.inl h3)))]
        rw [e]
        clear e
        go_enter Tryd.func33, Tryd.ntmps33
        go_wp2
        go_ret
        exact ⟨rfl, rfl⟩
      · by_cases h4 : 524288 < p + n
        · have e : byI n p = 0 := by unfold byI; rw [if_pos (.inr (.inr (.inr h4)))]
          rw [e]
          clear e
          go_enter Tryd.func33, Tryd.ntmps33
          go_wp2
          go_ret
          exact ⟨rfl, rfl⟩
        · have e : byI n p = p + n := by unfold byI; rw [if_neg (by omega)]
          rw [e]
          clear e
          go_enter Tryd.func33, Tryd.ntmps33
          go_wp2
          go_ret
          exact ⟨retInt (by omega), rfl⟩
theorem fn31_ok {W : World} {y : Nat} {n : Int} (c : W.cell? ⟨y, 1, none⟩ = some (.int .i64 n)) (p : Int) (hp : 0 ≤ p ∧ p ≤ 524288) :
    Calls Tryd.prog 31 #[.int .i64 p, .pointer (some ⟨y, 0, none⟩)] W fun e w' => e = .returned (.int .i64 (toI n p)) ∧ w' = W := by
  have T := turned_any p n hp W
  generalize toI n p = t at *
  go_enter Tryd.func31, Tryd.ntmps31
  go_wp2_with (go_at_call 32; refine T.mono ?_; clear T; rintro e w1 ⟨rfl, hw⟩; subst w1)
  go_ret
  exact ⟨rfl, rfl⟩
theorem tu31 {W : World} {y : Nat} {n : Int} (c : W.cell? ⟨y, 1, none⟩ = some (.int .i64 n)) (p : Int) (hp : 0 ≤ p ∧ p ≤ 524288) :
    Calls Tryd.prog 51 #[.int .u64 p, .func (.func 31) #[] #[.pointer (some ⟨y, 0, none⟩)]] W fun e w' => e = .returned (.int .u64 (byI n p)) ∧ w' = W := by
  have F := fn31_ok c p hp
  have WR := fun W' => wrong_any (toI n p) W'
  have hp1 := hp.1
  have hp2 := hp.2
  have bk := byI_ok n p
  cases hw : wrongP (toI n p)
  · have e := toI_right n p hw
    rw [hw] at WR
    rw [← e] at F WR
    generalize byI n p = t at *
    obtain ⟨b1, b2⟩ := bk
    clear hw e c
    go_enter Tryd.func51, Tryd.ntmps51
    go_wp2_with (first
      | (go_at_call 31; refine F.mono ?_; clear F; rintro e w1 ⟨rfl, hw⟩; subst w1)
      | (go_at_call 38; refine (WR _).mono ?_; rintro e w' ⟨rfl, hw⟩; subst w'))
    go_ret
    exact ⟨rfl, rfl⟩
  · have e := toI_wrong n p hw
    rw [hw] at WR
    rw [e]
    generalize toI n p = t at *
    clear hw e c bk
    go_enter Tryd.func51, Tryd.ntmps51
    go_wp2_with (first
      | (go_at_call 31; refine F.mono ?_; clear F; rintro e w1 ⟨rfl, hw⟩; subst w1)
      | (go_at_call 38; refine (WR _).mono ?_; rintro e w' ⟨rfl, hw⟩; subst w'))
    go_ret
    exact ⟨rfl, rfl⟩
theorem map31 {w : World} {p a b F N y : Nat} {ws : List Int} {rs : List Fr} {cs : Array Value} {t : TypeId} {n : Int} (h : Ss w p a b ws F N 0 rs) (Y : Bx w y cs t) (hc : cs[1]? = some (.int .i64 n)) (yp : y ≠ p) (ya : y ≠ a) (yb : y ≠ b) :
    Calls Tryd.prog 24 #[.pointer (some ⟨p, 0, none⟩), .func (.func 31) #[] #[.pointer (some ⟨y, 0, none⟩)]] w fun e w' => (∃ u, e = .returned u) ∧ (∃ ws', Ss w' p a b ws' F N 0 (refill rs ((ptrs rs).map (byI n))) ∧ Bes F N ws ws') ∧ Bx w' y cs t ∧ K3 p b y w w' := by
  have yl := Y.lt
  have pok : ∀ v ∈ ptrs rs, 0 ≤ v ∧ v ≤ 524288 := ptrs_ok rs h.ok
  refine Calls.mono (map_ok h Y.lt yp ya yb 31 ((ptrs rs).map (byI n)) (by simp) (fun v hv => ?_) (fun _ _ W => Bx W y cs t) (fun W hs hy => hy.trans Y) (fun base i W W' hj hs hy hk => hy.trans hj) (fun base i W hb hbs hj hi => ?_)) ?_
  · obtain ⟨u, _, rfl⟩ := List.mem_map.1 hv
    exact byI_ok n u
  · have hc1 : W.cell? ⟨y, 1, none⟩ = some (.int .i64 n) := by rw [Joins.cell_of_block hj]; exact hc
    have e1 : ((ptrs rs).map (byI n)).getD i 0 = byI n ((ptrs rs).getD i 0) := by
      simp only [List.getD_eq_getElem?_getD, List.getElem?_map, List.getElem?_eq_getElem hi, Option.map_some, Option.getD_some]
    have T := tu31 hc1 ((ptrs rs).getD i 0) (by
      simp only [List.getD_eq_getElem?_getD, List.getElem?_eq_getElem hi, Option.getD_some]
      exact pok _ (List.getElem_mem hi))
    rw [e1]
    refine T.mono ?_
    rintro e w' ⟨rfl, hw⟩
    subst w'
    exact ⟨rfl, hj, ⟨rfl, rfl, rfl, Nat.le_refl _, fun _ _ _ => rfl⟩⟩
  · rintro e w' ⟨he, hs, ⟨base, hb1, hb2, h1⟩, K⟩
    exact ⟨he, hs, h1, K⟩
end Go.Proofs.YtglimbpnekephaaDoor
