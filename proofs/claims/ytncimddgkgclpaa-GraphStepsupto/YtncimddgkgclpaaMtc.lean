/- turned's functions. -/
import Derived.Test.YtncimddgkgclpaaMtb
namespace Go.Proofs.Ytncimddgkgclpaa
open Go.RowKit
set_option linter.unusedVariables false
set_option linter.unusedSimpArgs false
set_option maxRecDepth 100000

/-! ## The way's end is handed on -/
/-- a function that is handed on: what it answers, and what it leaves -/
structure TnS (w0 : World) (X : Nat → Prop) (J : World → Prop) (tf : Int → Int) (zb : Nat) : Prop where
  call : ∀ W, J W → ∀ n, Calls Try.prog 27 #[pt zb, .int .i64 n] W fun e w' => e = .returned (.int .i64 (tf n)) ∧ J w' ∧ Kx w0.heap.size X W w'
  keep : ∀ W W', J W → Ky w0.heap.size (fun _ => False) [34, 22, 71] W W' → J W'
  bel : ∀ W, J W → Below w0.heap.size w0 W
  set3 : ∀ W k i v c f, J W → W.heap[k]? = some (.cells c 3 f) → ¬ X k → w0.heap.size ≤ k → J (W.setCell ⟨k, i, none⟩ v)
set_option maxHeartbeats 4000000 in
theorem all36S {w0 w : World} {X : Nat → Prop} {J : World → Prop} {tf : Int → Int} {zb lo : Nat} (T : TnS w0 X J tf zb) (hJ : J w) (l : List Int) (o : Option Addr) (cap : Nat) (P : PS .i64 w0 o cap l) (tb : Nat)
    (ht : w.heap[tb]? = some (.cells #[.func (.func 27) #[pt zb] #[]] 44 (0, 0))) (hx : ¬ X tb) (hlo : lo ≤ w.heap.size) (hX : ∀ k, X k → k < w.heap.size) (hl : l.length ≤ 1000000) :
    Calls Try.prog 36 #[.slice o l.length cap, pt tb] w fun e w' => (∃ gq, e = .returned (.slice (some ⟨gq, 0, none⟩) l.length l.length) ∧ Fs lo X w' .i64 3 (some ⟨gq, 0, none⟩) l.length (l.map tf)) ∧ J w' ∧ Kx w0.heap.size X w w' := by
  have hc := P.cap
  have HP := Hid.mk P
  have HT := Hid.mk T
  have HJ := Hid.mk hJ
  obtain ⟨n, hn⟩ : ∃ n, l.length = n := ⟨_, rfl⟩
  have HN := Hid.mk hn
  rw [hn] at hl hc ⊢
  obtain ⟨w1, hm, F1, B1, S1⟩ := made_ints w n hl
  have hb0 := (T.bel w hJ).size
  have B1' := Ky.later (X := fun _ => False) (T := [34, 22, 71]) hb0 B1
  have J1 := T.keep w w1 hJ B1'
  have hgx : ¬ X w.heap.size := fun q => Nat.lt_irrefl _ (hX _ q)
  have HA := Hid.mk (And.intro hb0 (And.intro hlo (And.intro hgx hx)))
  obtain ⟨gq, hgq⟩ : ∃ gq, w.heap.size = gq := ⟨_, rfl⟩
  rw [hgq] at hm F1 HA
  have HG := Hid.mk hgq
  have ht1 : w1.heap[tb]? = some (.cells #[.func (.func 27) #[pt zb] #[]] 44 (0, 0)) := (B1.block tb (Array.getElem?_eq_some_iff.1 ht).1).trans ht
  have H1 : Hid (J w1 ∧ IR w1 gq n (fun _ => 0) ∧ w1.heap[tb]? = some (.cells #[.func (.func 27) #[pt zb] #[]] 44 (0, 0)) ∧ Kx w0.heap.size X w w1) := ⟨J1, F1.ir, ht1, Kx.later hb0 B1⟩
  clear P hn T hJ F1 B1 S1 B1' J1 hgx hgq ht ht1 hb0 hlo hx hX
  go_enter Try.func36, Try.ntmps36
  go_wp2
  go_loopw [12] (fun cv wr => ∃ i : Nat, cv = .int .i64 i ∧ i ≤ n ∧ Hid (∃ E, IR wr gq n E ∧ (∀ j (h : j < l.length), j < i → E j = tf l[j]) ∧ J wr ∧ wr.heap[tb]? = some (.cells #[.func (.func 27) #[pt zb] #[]] 44 (0, 0)) ∧ Kx w0.heap.size X w wr)) (fun cv _ => n - (intOf cv).toNat)
  case atStart => exact ⟨0, rfl, Nat.zero_le _, ⟨_, H1.out.2.1, fun j _ hj => absurd hj (Nat.not_lt_zero _), H1.out.1, H1.out.2.2⟩⟩
  case round =>
    obtain ⟨i, rfl, hi, HE⟩ := hrel
    by_cases hlt : i < n
    · have hlt' : (i : Int) < n := by omega
      have kl : i < l.length := by rw [HN.out]; exact hlt
      obtain ⟨E, IE, AE, JE, TE, KE⟩ := HE.out
      obtain ⟨g1, f1, rfl, cx⟩ := (HP.out.later (HT.out.bel _ JE)).get i kl
      have ct : wr.cell? ⟨tb, 0, none⟩ = some (.func (.func 27) #[pt zb] #[]) := by rw [Joins.cell_of_block TE]; rfl
      have CT := HT.out.call wr JE l[i]
      have HZ : Hid (∀ j (h : j < l.length), j = i → tf l[j] = tf l[i]) := ⟨fun j h e => by subst e; rfl⟩
      generalize hy : l[i] = y at *
      have HY := Hid.mk hy
      have HB := Hid.mk (And.intro IE (And.intro AE (And.intro TE KE)))
      clear IE AE JE TE KE hy
      go_wp2_with (go_at_call 27; refine CT.mono ?_; clear CT; rintro e w2 ⟨rfl, J2, K2⟩; have HK := Hid.mk (And.intro J2 K2); have I2 : IR w2 gq n E := HB.out.1.block (fun o e q => K2.keep _ _ e HA.out.2.2.1 q); have e2 := I2.cell hlt; have z2 := I2.z i; have HI2 := Hid.mk I2; clear J2 K2 I2)
      have HS : Hid (IR (w2.setCell ⟨gq, i, none⟩ (.int .i64 (tf y))) gq n (upd E i (tf y)) ∧ J (w2.setCell ⟨gq, i, none⟩ (.int .i64 (tf y))) ∧ (w2.setCell ⟨gq, i, none⟩ (.int .i64 (tf y))).heap[tb]? = some (.cells #[.func (.func 27) #[pt zb] #[]] 44 (0, 0)) ∧ Kx w0.heap.size X w (w2.setCell ⟨gq, i, none⟩ (.int .i64 (tf y)))) := by
        obtain ⟨J2, K2⟩ := HK.out
        obtain ⟨c2, q1, q2⟩ := HI2.out
        have hq : w0.heap.size ≤ gq := HA.out.1
        refine ⟨HI2.out.set hlt _, HT.out.set3 _ _ _ _ _ _ J2 q1 HA.out.2.2.1 hq, ?_, ⟨(HB.out.2.2.2.bel.trans K2.bel).trans (Below.setCell (Below.refl _ _) hq _), fun k o h1 h2 h3 => (Below.heap_setCell _ _ _ _ (fun e => by have e' : k = gq := e; have := (Array.getElem?_eq_some_iff.1 h1).1; have := HG.out; omega)).trans ((HB.out.2.2.2.trans K2).keep k o h1 h2 h3)⟩⟩
        have h1 := K2.keep _ _ HB.out.2.2.1 HA.out.2.2.2 (fun c f e => by cases e)
        exact (Below.heap_setCell _ _ _ _ (ne_kind h1 q1 (by decide))).trans h1
      go_roundw
      case rel => exact ⟨i + 1, by go_num, by omega, ⟨_, HS.out.1, fun j h hj => by
        by_cases q : j = i
        · subst q; rw [upd_at, HY.out]
        · rw [upd_far _ _ q]; exact HB.out.2.1 j h (by omega), HS.out.2⟩⟩
      case measure => simp [intOf]; omega
    · obtain rfl : i = n := by omega
      go_wp2
      go_ret
      obtain ⟨E, ⟨c, q1, q2, q3⟩, AE, JE, TE, KE⟩ := HE.out
      have hll : (l.map tf).length = i := by simp [HN.out]
      refine ⟨⟨gq, rfl, by rw [hll]; exact Nat.le_refl _, by rw [hll]; omega, fun _ => ⟨gq, 0, c, rfl, HA.out.2.1, HA.out.2.2.1, q1, fun j hj => ?_⟩⟩, JE, KE⟩
      rw [hll] at hj
      rw [Nat.zero_add, q3 j hj, AE j (by rw [HN.out]; exact hj) hj]
      simp

/-! ## The number itself is handed on -/
/-- a function that is handed on: what it answers, and what it leaves -/
structure TnN (w0 : World) (X : Nat → Prop) (J : World → Prop) (tf : Int → Int) (zb : Nat) : Prop where
  call : ∀ W, J W → ∀ n, Calls Try.prog 22 #[.int .i64 n, pt zb] W fun e w' => e = .returned (.int .i64 (tf n)) ∧ J w' ∧ Kx w0.heap.size X W w'
  keep : ∀ W W', J W → Ky w0.heap.size (fun _ => False) [34, 22, 71] W W' → J W'
  bel : ∀ W, J W → Below w0.heap.size w0 W
  set3 : ∀ W k i v c f, J W → W.heap[k]? = some (.cells c 3 f) → ¬ X k → w0.heap.size ≤ k → J (W.setCell ⟨k, i, none⟩ v)
set_option maxHeartbeats 4000000 in
theorem all36N {w0 w : World} {X : Nat → Prop} {J : World → Prop} {tf : Int → Int} {zb lo : Nat} (T : TnN w0 X J tf zb) (hJ : J w) (l : List Int) (o : Option Addr) (cap : Nat) (P : PS .i64 w0 o cap l) (tb : Nat)
    (ht : w.heap[tb]? = some (.cells #[.func (.func 22) #[] #[pt zb]] 44 (0, 0))) (hx : ¬ X tb) (hlo : lo ≤ w.heap.size) (hX : ∀ k, X k → k < w.heap.size) (hl : l.length ≤ 1000000) :
    Calls Try.prog 36 #[.slice o l.length cap, pt tb] w fun e w' => (∃ gq, e = .returned (.slice (some ⟨gq, 0, none⟩) l.length l.length) ∧ Fs lo X w' .i64 3 (some ⟨gq, 0, none⟩) l.length (l.map tf)) ∧ J w' ∧ Kx w0.heap.size X w w' := by
  have hc := P.cap
  have HP := Hid.mk P
  have HT := Hid.mk T
  have HJ := Hid.mk hJ
  obtain ⟨n, hn⟩ : ∃ n, l.length = n := ⟨_, rfl⟩
  have HN := Hid.mk hn
  rw [hn] at hl hc ⊢
  obtain ⟨w1, hm, F1, B1, S1⟩ := made_ints w n hl
  have hb0 := (T.bel w hJ).size
  have B1' := Ky.later (X := fun _ => False) (T := [34, 22, 71]) hb0 B1
  have J1 := T.keep w w1 hJ B1'
  have hgx : ¬ X w.heap.size := fun q => Nat.lt_irrefl _ (hX _ q)
  have HA := Hid.mk (And.intro hb0 (And.intro hlo (And.intro hgx hx)))
  obtain ⟨gq, hgq⟩ : ∃ gq, w.heap.size = gq := ⟨_, rfl⟩
  rw [hgq] at hm F1 HA
  have HG := Hid.mk hgq
  have ht1 : w1.heap[tb]? = some (.cells #[.func (.func 22) #[] #[pt zb]] 44 (0, 0)) := (B1.block tb (Array.getElem?_eq_some_iff.1 ht).1).trans ht
  have H1 : Hid (J w1 ∧ IR w1 gq n (fun _ => 0) ∧ w1.heap[tb]? = some (.cells #[.func (.func 22) #[] #[pt zb]] 44 (0, 0)) ∧ Kx w0.heap.size X w w1) := ⟨J1, F1.ir, ht1, Kx.later hb0 B1⟩
  clear P hn T hJ F1 B1 S1 B1' J1 hgx hgq ht ht1 hb0 hlo hx hX
  go_enter Try.func36, Try.ntmps36
  go_wp2
  go_loopw [12] (fun cv wr => ∃ i : Nat, cv = .int .i64 i ∧ i ≤ n ∧ Hid (∃ E, IR wr gq n E ∧ (∀ j (h : j < l.length), j < i → E j = tf l[j]) ∧ J wr ∧ wr.heap[tb]? = some (.cells #[.func (.func 22) #[] #[pt zb]] 44 (0, 0)) ∧ Kx w0.heap.size X w wr)) (fun cv _ => n - (intOf cv).toNat)
  case atStart => exact ⟨0, rfl, Nat.zero_le _, ⟨_, H1.out.2.1, fun j _ hj => absurd hj (Nat.not_lt_zero _), H1.out.1, H1.out.2.2⟩⟩
  case round =>
    obtain ⟨i, rfl, hi, HE⟩ := hrel
    by_cases hlt : i < n
    · have hlt' : (i : Int) < n := by omega
      have kl : i < l.length := by rw [HN.out]; exact hlt
      obtain ⟨E, IE, AE, JE, TE, KE⟩ := HE.out
      obtain ⟨g1, f1, rfl, cx⟩ := (HP.out.later (HT.out.bel _ JE)).get i kl
      have ct : wr.cell? ⟨tb, 0, none⟩ = some (.func (.func 22) #[] #[pt zb]) := by rw [Joins.cell_of_block TE]; rfl
      have CT := HT.out.call wr JE l[i]
      have HZ : Hid (∀ j (h : j < l.length), j = i → tf l[j] = tf l[i]) := ⟨fun j h e => by subst e; rfl⟩
      generalize hy : l[i] = y at *
      have HY := Hid.mk hy
      have HB := Hid.mk (And.intro IE (And.intro AE (And.intro TE KE)))
      clear IE AE JE TE KE hy
      go_wp2_with (go_at_call 22; refine CT.mono ?_; clear CT; rintro e w2 ⟨rfl, J2, K2⟩; have HK := Hid.mk (And.intro J2 K2); have I2 : IR w2 gq n E := HB.out.1.block (fun o e q => K2.keep _ _ e HA.out.2.2.1 q); have e2 := I2.cell hlt; have z2 := I2.z i; have HI2 := Hid.mk I2; clear J2 K2 I2)
      have HS : Hid (IR (w2.setCell ⟨gq, i, none⟩ (.int .i64 (tf y))) gq n (upd E i (tf y)) ∧ J (w2.setCell ⟨gq, i, none⟩ (.int .i64 (tf y))) ∧ (w2.setCell ⟨gq, i, none⟩ (.int .i64 (tf y))).heap[tb]? = some (.cells #[.func (.func 22) #[] #[pt zb]] 44 (0, 0)) ∧ Kx w0.heap.size X w (w2.setCell ⟨gq, i, none⟩ (.int .i64 (tf y)))) := by
        obtain ⟨J2, K2⟩ := HK.out
        obtain ⟨c2, q1, q2⟩ := HI2.out
        have hq : w0.heap.size ≤ gq := HA.out.1
        refine ⟨HI2.out.set hlt _, HT.out.set3 _ _ _ _ _ _ J2 q1 HA.out.2.2.1 hq, ?_, ⟨(HB.out.2.2.2.bel.trans K2.bel).trans (Below.setCell (Below.refl _ _) hq _), fun k o h1 h2 h3 => (Below.heap_setCell _ _ _ _ (fun e => by have e' : k = gq := e; have := (Array.getElem?_eq_some_iff.1 h1).1; have := HG.out; omega)).trans ((HB.out.2.2.2.trans K2).keep k o h1 h2 h3)⟩⟩
        have h1 := K2.keep _ _ HB.out.2.2.1 HA.out.2.2.2 (fun c f e => by cases e)
        exact (Below.heap_setCell _ _ _ _ (ne_kind h1 q1 (by decide))).trans h1
      go_roundw
      case rel => exact ⟨i + 1, by go_num, by omega, ⟨_, HS.out.1, fun j h hj => by
        by_cases q : j = i
        · subst q; rw [upd_at, HY.out]
        · rw [upd_far _ _ q]; exact HB.out.2.1 j h (by omega), HS.out.2⟩⟩
      case measure => simp [intOf]; omega
    · obtain rfl : i = n := by omega
      go_wp2
      go_ret
      obtain ⟨E, ⟨c, q1, q2, q3⟩, AE, JE, TE, KE⟩ := HE.out
      have hll : (l.map tf).length = i := by simp [HN.out]
      refine ⟨⟨gq, rfl, by rw [hll]; exact Nat.le_refl _, by rw [hll]; omega, fun _ => ⟨gq, 0, c, rfl, HA.out.2.1, HA.out.2.2.1, q1, fun j hj => ?_⟩⟩, JE, KE⟩
      rw [hll] at hj
      rw [Nat.zero_add, q3 j hj, AE j (by rw [HN.out]; exact hj) hj]
      simp
end Go.Proofs.Ytncimddgkgclpaa
