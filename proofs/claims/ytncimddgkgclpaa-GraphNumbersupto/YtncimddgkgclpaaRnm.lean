/- GraphNumbers' function. -/
import Derived.Test.YtncimddgkgclpaaNum
import Derived.Test.YtncimddgkgclpaaNam
namespace Go.Proofs.Ytncimddgkgclpaa
open Go.RowKit
set_option linter.unusedVariables false
set_option linter.unusedSimpArgs false
set_option maxRecDepth 100000

set_option maxHeartbeats 8000000 in
theorem renum18 (m r : Nat) (l : List Int) (o2 : Option Addr) (c2 bn br : Nat) (w : World) (P : PS .i64 w o2 c2 l) (cn : w.cell? ⟨bn, 0, none⟩ = some (.int .i64 m)) (cr : w.cell? ⟨br, 0, none⟩ = some (.int .i64 r)) (hm : m ≤ 1000) (hr : r < m) (hl : l.length ≤ 1000000) :
    Calls Try.prog 18 #[.slice o2 l.length c2, pt bn, pt br] w fun e w' => ∃ v, e = .returned v ∧ w'.ownsRow w.heap.size 3 1 v l.length (its (l.map (rnI m r))) ∧ Below w.heap.size w w' := by
  have hc2 := P.cap
  obtain ⟨k, hk⟩ : ∃ k, l.length = k := ⟨_, rfl⟩
  have HK := Hid.mk hk
  have HP := Hid.mk P
  rw [hk] at hl hc2 ⊢
  clear hk P
  have HNM : Hid (∀ z, rnI m r z = if 0 ≤ z ∧ z < m then (((z.toNat + r) % m : Nat) : Int) else -1) := ⟨fun z => by
    unfold rnI
    by_cases h : 0 ≤ z ∧ z < m
    · rw [kn_yes h, ren_pos h.1, if_pos h]; rfl
    · rw [kn_no h, ren_neg (by omega), if_neg h]⟩
  generalize rnI m r = NM at *
  have HC := Hid.mk (fun (W : World) (b : Below w.heap.size w W) => And.intro (cellLater b cn) (cellLater b cr))
  clear cn cr
  obtain ⟨i0, hi0, hz0, hz1, hz2⟩ := info_parts info3
  go_enter Try.func18, Try.ntmps18
  go_wp2
  go_loopw [5, 6] (fun rv cv wr => ∃ (i : Nat) (gr : Option Addr) (rc : Nat), cv = .int .i64 i ∧ rv = .slice gr i rc ∧ i ≤ k ∧ Hid (wr.ownsRow w.heap.size 3 1 (.slice gr i rc) i (its ((l.take i).map NM)) ∧ Ky w.heap.size (fun _ => False) [3] w wr)) (fun _ cv _ => k - (intOf cv).toNat)
  case atStart => exact ⟨0, none, 0, rfl, rfl, Nat.zero_le _, ⟨World.ownsRow_nil _ _ _ _, Ky.refl _ _ _ _⟩⟩
  case round =>
    obtain ⟨i, gr, rc, rfl, rfl, hik, HI⟩ := hrel
    obtain ⟨x0, x1⟩ := HC.out _ HI.out.2.bel
    by_cases hlt : i < k
    case neg =>
      obtain rfl : k = i := by omega
      go_wp2
      go_ret
      have h := HI.out.1
      rw [← HK.out, List.take_length, HK.out] at h
      exact ⟨_, rfl, h, HI.out.2.bel⟩
    case pos =>
    have hlt' : (i : Int) < k := by omega
    have kl : i < l.length := by rw [HK.out]; exact hlt
    obtain ⟨g2, f2, rfl, y0⟩ := HP.out.get i kl
    have y1 := cellLater HI.out.2.bel y0
    have HT : Hid (its ((l.take (i + 1)).map NM) = its ((l.take i).map NM) ++ [.int .i64 (NM l[i])]) := ⟨by unfold its; rw [List.take_succ_eq_append_getElem kl]; simp only [List.map_append, List.map_cons, List.map_nil]⟩
    generalize l[i] = x at *
    have hz2' := HNM.out x
    have hsz : w.heap.size ≤ wr.heap.size := HI.out.2.bel.size
    have HZ : Hid (Below wr.heap.size wr (wr.drew.alloc (.cells #[.int .i64 (-1)] 3))) := ⟨(Below.refl _ wr).drew.alloc (Nat.le_refl _) _⟩
    have HR6 := Hid.mk HI.out.1
    have HKY := Hid.mk HI.out.2
    by_cases hneg : x < 0
    case pos =>
      have HNM2 : Hid (NM x = -1) := ⟨by rw [hz2', if_neg (by omega)]⟩
      have hx2b : decide (0 ≤ x) = false := decide_eq_false (by omega)
      clear hz2'
      go_wp2
      refine wp_region_held_drew (S := (fun W' => W'.cell? ⟨bn, 0, none⟩ = some (.int .i64 m) ∧ W'.cell? ⟨br, 0, none⟩ = some (.int .i64 r) ∧ W'.cell? ⟨g2, f2 + i, none⟩ = some (.int .i64 x))) (by kernel_rfl) ?_ (fun hHeld => ?_)
      · try dsimp only
        go_keep
      refine wpAnyH_take (i := 0) (v := ?_) rfl (by kernel_rfl) (by kernel_rfl) (by kernel_rfl) (fun _ _ _ h => h) (Or.inl ⟨by rfl, ?_⟩) (by assumption) ?_
      rotate_left
      · intro w' hSw
        try dsimp only at hSw
        go_simp
        try with_reducible rfl
      try simp only [Act.put, List.getElem_toArray, List.getElem_cons_zero, List.getElem_cons_succ, List.setIfInBounds_toArray, List.set_cons_zero, List.set_cons_succ]
      refine wpAnyH_take (i := 1) (v := ?_) rfl (by kernel_rfl) (by kernel_rfl) (by kernel_rfl) (fun _ _ _ h => h) (Or.inl ⟨by rfl, ?_⟩) (by assumption) ?_
      rotate_left
      · intro w' hSw
        try dsimp only at hSw
        go_simp
        try with_reducible rfl
      try simp only [Act.put, List.getElem_toArray, List.getElem_cons_zero, List.getElem_cons_succ, List.setIfInBounds_toArray, List.set_cons_zero, List.set_cons_succ]
      refine wpAnyH_take (i := 2) (v := ?_) rfl (by kernel_rfl) (by kernel_rfl) (by kernel_rfl) (fun _ _ _ h => h) (Or.inl ⟨by rfl, ?_⟩) (by assumption) ?_
      rotate_left
      · intro w' hSw
        try dsimp only at hSw
        go_simp
        try with_reducible rfl
      try simp only [Act.put, List.getElem_toArray, List.getElem_cons_zero, List.getElem_cons_succ, List.setIfInBounds_toArray, List.set_cons_zero, List.set_cons_succ]
      refine wpAnyH_take (i := 3) (v := ?_) rfl (by kernel_rfl) (by kernel_rfl) (by kernel_rfl) (fun _ _ _ h => h) (Or.inl ⟨by rfl, ?_⟩) (by assumption) ?_
      rotate_left
      · intro w' hSw
        try dsimp only at hSw
        go_simp
        try with_reducible rfl
      try simp only [Act.put, List.getElem_toArray, List.getElem_cons_zero, List.getElem_cons_succ, List.setIfInBounds_toArray, List.set_cons_zero, List.set_cons_succ]
      refine wpAnyH_take (i := 4) (v := ?_) rfl (by kernel_rfl) (by kernel_rfl) (by kernel_rfl) (fun _ _ _ h => h) (Or.inl ⟨by rfl, ?_⟩) (by assumption) ?_
      rotate_left
      · intro w' hSw
        try dsimp only at hSw
        go_simp
        try with_reducible rfl
      try simp only [Act.put, List.getElem_toArray, List.getElem_cons_zero, List.getElem_cons_succ, List.setIfInBounds_toArray, List.set_cons_zero, List.set_cons_succ]
      refine wpAnyH_take (i := 5) (v := ?_) rfl (by kernel_rfl) (by kernel_rfl) (by kernel_rfl) (fun _ _ _ h => h) (Or.inl ⟨by rfl, ?_⟩) (by assumption) ?_
      rotate_left
      · intro w' hSw
        try dsimp only at hSw
        go_simp
        try with_reducible rfl
      try simp only [Act.put, List.getElem_toArray, List.getElem_cons_zero, List.getElem_cons_succ, List.setIfInBounds_toArray, List.set_cons_zero, List.set_cons_succ]
      refine wpAnyH_take (i := 6) (v := undef) rfl (by kernel_rfl) (by kernel_rfl) (by kernel_rfl) (fun _ _ _ h => h) (Or.inr ⟨by rfl, rfl⟩) (by assumption) ?_
      try simp only [Act.put, List.getElem_toArray, List.getElem_cons_zero, List.getElem_cons_succ, List.setIfInBounds_toArray, List.set_cons_zero, List.set_cons_succ]
      refine wpAnyH_take (i := 7) (v := undef) rfl (by kernel_rfl) (by kernel_rfl) (by kernel_rfl) (fun _ _ _ h => h) (Or.inr ⟨by rfl, rfl⟩) (by assumption) ?_
      try simp only [Act.put, List.getElem_toArray, List.getElem_cons_zero, List.getElem_cons_succ, List.setIfInBounds_toArray, List.set_cons_zero, List.set_cons_succ]
      refine wpAnyH_take (i := 8) (v := undef) rfl (by kernel_rfl) (by kernel_rfl) (by kernel_rfl) (fun _ _ _ h => h) (Or.inr ⟨by rfl, rfl⟩) (by assumption) ?_
      try simp only [Act.put, List.getElem_toArray, List.getElem_cons_zero, List.getElem_cons_succ, List.setIfInBounds_toArray, List.set_cons_zero, List.set_cons_succ]
      refine wpAnyH_take (i := 9) (v := undef) rfl (by kernel_rfl) (by kernel_rfl) (by kernel_rfl) (fun _ _ _ h => h) (Or.inr ⟨by rfl, rfl⟩) (by assumption) ?_
      try simp only [Act.put, List.getElem_toArray, List.getElem_cons_zero, List.getElem_cons_succ, List.setIfInBounds_toArray, List.set_cons_zero, List.set_cons_succ]
      refine wpAnyH_take (i := 10) (v := undef) rfl (by kernel_rfl) (by kernel_rfl) (by kernel_rfl) (fun _ _ _ h => h) (Or.inr ⟨by rfl, rfl⟩) (by assumption) ?_
      try simp only [Act.put, List.getElem_toArray, List.getElem_cons_zero, List.getElem_cons_succ, List.setIfInBounds_toArray, List.set_cons_zero, List.set_cons_succ]
      refine wpAnyH_take (i := 11) (v := undef) rfl (by kernel_rfl) (by kernel_rfl) (by kernel_rfl) (fun _ _ _ h => h) (Or.inr ⟨by rfl, rfl⟩) (by assumption) ?_
      try simp only [Act.put, List.getElem_toArray, List.getElem_cons_zero, List.getElem_cons_succ, List.setIfInBounds_toArray, List.set_cons_zero, List.set_cons_succ]
      refine wpAnyH_take (i := 12) (v := ?_) rfl (by kernel_rfl) (by kernel_rfl) (by kernel_rfl) (fun _ _ _ h => h) (Or.inl ⟨by rfl, ?_⟩) (by assumption) ?_
      rotate_left
      · intro w' hSw
        try dsimp only at hSw
        go_simp
        try with_reducible rfl
      try simp only [Act.put, List.getElem_toArray, List.getElem_cons_zero, List.getElem_cons_succ, List.setIfInBounds_toArray, List.set_cons_zero, List.set_cons_succ]
      refine wpAnyH_done (by kernel_rfl) ?_ _
      go_wp2_with (at_builtin; go_loud (refine wpList_append_lies _ rfl (.tmp 37) (.tmp 38) 22 rfl w.heap.size 3 i0 _ 1 8 Try.underlying22 hi0 hz0 hz1 hz2 rfl (by decide) (.slice gr i rc) i (its ((l.take i).map NM)) rfl (own_later HR6.out HZ.out) ⟨wr.heap.size, 0, none⟩ 1 1 [.int .i64 (-1)] rfl rfl (World.news_of_block (heap_alloc_new wr.drew _)) (by simp [Value.oneCell']) (by decide) (by unfold Go.maxLen; omega) (by omega) (Nat.le_trans hsz HZ.out.size) _ rfl ?_; intro gz cz w9 hown hgr hat hlt9; have H9 := Hid.mk (And.intro hown hgr); clear hown hgr hat hlt9))
      go_roundw
      case rel =>
        obtain ⟨hown, hgr⟩ := H9.out
        refine ⟨i + 1, _, cz, by go_num, rfl, by omega, ⟨?_, HKY.out.trans ((Ky.later hsz HZ.out).trans (Ky.own hgr (own_later HR6.out HZ.out) (by decide) (Nat.le_trans hsz HZ.out.size)))⟩⟩
        rw [HT.out, HNM2.out]
        exact hown
      case measure => simp [intOf]; omega
    case neg =>
    have h0 : 0 ≤ x := by omega
    have hx0 : decide (0 ≤ x) = true := decide_eq_true h0
    by_cases hxm : x < m
    case neg =>
      have HNM2 : Hid (NM x = -1) := ⟨by rw [hz2', if_neg (by omega)]⟩
      have hx1 : decide (x < m) = false := decide_eq_false hxm
      clear hz2'
      go_wp2
      go_region_held3 (fun W' => W'.cell? ⟨bn, 0, none⟩ = some (.int .i64 m) ∧ W'.cell? ⟨br, 0, none⟩ = some (.int .i64 r) ∧ W'.cell? ⟨g2, f2 + i, none⟩ = some (.int .i64 x)) (go_keep) (fail)
      go_wp2_with (at_builtin; go_loud (refine wpList_append_lies _ rfl (.tmp 37) (.tmp 38) 22 rfl w.heap.size 3 i0 _ 1 8 Try.underlying22 hi0 hz0 hz1 hz2 rfl (by decide) (.slice gr i rc) i (its ((l.take i).map NM)) rfl (own_later HR6.out HZ.out) ⟨wr.heap.size, 0, none⟩ 1 1 [.int .i64 (-1)] rfl rfl (World.news_of_block (heap_alloc_new wr.drew _)) (by simp [Value.oneCell']) (by decide) (by unfold Go.maxLen; omega) (by omega) (Nat.le_trans hsz HZ.out.size) _ rfl ?_; intro gz cz w9 hown hgr hat hlt9; have H9 := Hid.mk (And.intro hown hgr); clear hown hgr hat hlt9))
      go_roundw
      case rel =>
        obtain ⟨hown, hgr⟩ := H9.out
        refine ⟨i + 1, _, cz, by go_num, rfl, by omega, ⟨?_, HKY.out.trans ((Ky.later hsz HZ.out).trans (Ky.own hgr (own_later HR6.out HZ.out) (by decide) (Nat.le_trans hsz HZ.out.size)))⟩⟩
        rw [HT.out, HNM2.out]
        exact hown
      case measure => simp [intOf]; omega
    case pos =>
    have HNM2 : Hid (NM x = (((x.toNat + r) % m : Nat) : Int)) := ⟨by rw [hz2', if_pos ⟨h0, hxm⟩]⟩
    have hx1 : decide (x < m) = true := decide_eq_true hxm
    clear hz2'
    go_wp2
    go_region_held3 (fun W' => W'.cell? ⟨bn, 0, none⟩ = some (.int .i64 m) ∧ W'.cell? ⟨br, 0, none⟩ = some (.int .i64 r) ∧ W'.cell? ⟨g2, f2 + i, none⟩ = some (.int .i64 x)) (go_keep) (fail)
    obtain ⟨q, hq⟩ : ∃ q : Nat, (x.toNat + r) % m = q := ⟨_, rfl⟩
    have hmod : (x + (r : Int)).tmod (m : Int) = (q : Int) := by
      rw [Int.tmod_eq_emod_of_nonneg (by omega), ← hq, Int.natCast_emod, Int.natCast_add, Int.toNat_of_nonneg h0]
    have hwr : IntKind.i64.wrap (x + (r : Int)) = x + r := by rw [IntKind.wrap_i64]; omega
    have hm0 : ¬ m = 0 := by omega
    have hm0b : ¬ (m : Int) = 0 := by omega
    have hnn : 0 ≤ x + (r : Int) := by omega
    rw [hq] at HNM2
    have hql : q < m := by rw [← hq]; exact Nat.mod_lt _ (by omega)
    clear hq
    have BA : Below wr.heap.size wr (wr.alloc (.cells #[.int .i64 (q : Int)] 3)).drew.drew := ((Below.refl _ wr).alloc (Nat.le_refl _) _).drew.drew
    have HBA := Hid.mk BA
    have HRA : Hid ((wr.alloc (.cells #[.int .i64 (q : Int)] 3)).drew.drew.ownsRow w.heap.size 3 1 (.slice gr i rc) i (its ((l.take i).map NM))) := ⟨own_later HR6.out BA⟩
    have HNW : Hid (∀ j u, [Value.int .i64 (q : Int)][j]? = some u → (wr.alloc (.cells #[.int .i64 (q : Int)] 3)).drew.drew.cell? ((⟨wr.heap.size, 0, none⟩ : Addr).add j) = some u) := ⟨World.news_of_block (heap_alloc_new _ _)⟩
    have HLO : Hid (w.heap.size ≤ (wr.alloc (.cells #[.int .i64 (q : Int)] 3)).drew.drew.heap.size) := ⟨Nat.le_trans hsz BA.size⟩
    have HSA : Hid (∀ {p : Prop}, p → (wr.alloc (.cells #[.int .i64 (q : Int)] 3)).drew.drew.cell? ⟨bn, 0, none⟩ = some (.int .i64 m) ∧ (wr.alloc (.cells #[.int .i64 (q : Int)] 3)).drew.drew.cell? ⟨br, 0, none⟩ = some (.int .i64 r) ∧ (wr.alloc (.cells #[.int .i64 (q : Int)] 3)).drew.drew.cell? ⟨g2, f2 + i, none⟩ = some (.int .i64 x)) := ⟨fun _ => ⟨cellLater BA x0, cellLater BA x1, cellLater BA y1⟩⟩
    clear BA
    go_wp2
    refine wp_region_held_drew (S := (fun W' => W'.cell? ⟨bn, 0, none⟩ = some (.int .i64 m) ∧ W'.cell? ⟨br, 0, none⟩ = some (.int .i64 r) ∧ W'.cell? ⟨g2, f2 + i, none⟩ = some (.int .i64 x))) (by kernel_rfl) ?_ (fun hHeld => ?_)
    · try dsimp only
      go_keep
    refine wpAnyH_take (i := 0) (v := ?_) rfl (by kernel_rfl) (by kernel_rfl) (by kernel_rfl) (fun _ _ _ h => h) (Or.inl ⟨by rfl, ?_⟩) (by assumption) ?_
    rotate_left
    · intro w' hSw
      try dsimp only at hSw
      go_simp
      try with_reducible rfl
    try simp only [Act.put, List.getElem_toArray, List.getElem_cons_zero, List.getElem_cons_succ, List.setIfInBounds_toArray, List.set_cons_zero, List.set_cons_succ]
    refine wpAnyH_take (i := 1) (v := ?_) rfl (by kernel_rfl) (by kernel_rfl) (by kernel_rfl) (fun _ _ _ h => h) (Or.inl ⟨by rfl, ?_⟩) (by assumption) ?_
    rotate_left
    · intro w' hSw
      try dsimp only at hSw
      go_simp
      try with_reducible rfl
    try simp only [Act.put, List.getElem_toArray, List.getElem_cons_zero, List.getElem_cons_succ, List.setIfInBounds_toArray, List.set_cons_zero, List.set_cons_succ]
    refine wpAnyH_take (i := 2) (v := ?_) rfl (by kernel_rfl) (by kernel_rfl) (by kernel_rfl) (fun _ _ _ h => h) (Or.inl ⟨by rfl, ?_⟩) (by assumption) ?_
    rotate_left
    · intro w' hSw
      try dsimp only at hSw
      go_simp
      try with_reducible rfl
    try simp only [Act.put, List.getElem_toArray, List.getElem_cons_zero, List.getElem_cons_succ, List.setIfInBounds_toArray, List.set_cons_zero, List.set_cons_succ]
    refine wpAnyH_take (i := 3) (v := ?_) rfl (by kernel_rfl) (by kernel_rfl) (by kernel_rfl) (fun _ _ _ h => h) (Or.inl ⟨by rfl, ?_⟩) (by assumption) ?_
    rotate_left
    · intro w' hSw
      try dsimp only at hSw
      go_simp
      try with_reducible rfl
    try simp only [Act.put, List.getElem_toArray, List.getElem_cons_zero, List.getElem_cons_succ, List.setIfInBounds_toArray, List.set_cons_zero, List.set_cons_succ]
    refine wpAnyH_take (i := 4) (v := ?_) rfl (by kernel_rfl) (by kernel_rfl) (by kernel_rfl) (fun _ _ _ h => h) (Or.inl ⟨by rfl, ?_⟩) (by assumption) ?_
    rotate_left
    · intro w' hSw
      try dsimp only at hSw
      go_simp
      try with_reducible rfl
    try simp only [Act.put, List.getElem_toArray, List.getElem_cons_zero, List.getElem_cons_succ, List.setIfInBounds_toArray, List.set_cons_zero, List.set_cons_succ]
    refine wpAnyH_take (i := 5) (v := ?_) rfl (by kernel_rfl) (by kernel_rfl) (by kernel_rfl) (fun _ _ _ h => h) (Or.inl ⟨by rfl, ?_⟩) (by assumption) ?_
    rotate_left
    · intro w' hSw
      try dsimp only at hSw
      go_simp
      try with_reducible rfl
    try simp only [Act.put, List.getElem_toArray, List.getElem_cons_zero, List.getElem_cons_succ, List.setIfInBounds_toArray, List.set_cons_zero, List.set_cons_succ]
    refine wpAnyH_take (i := 6) (v := ?_) rfl (by kernel_rfl) (by kernel_rfl) (by kernel_rfl) (fun _ _ _ h => h) (Or.inl ⟨by rfl, ?_⟩) (by assumption) ?_
    rotate_left
    · intro w' hSw
      try dsimp only at hSw
      go_simp
      try with_reducible rfl
    try simp only [Act.put, List.getElem_toArray, List.getElem_cons_zero, List.getElem_cons_succ, List.setIfInBounds_toArray, List.set_cons_zero, List.set_cons_succ]
    refine wpAnyH_take (i := 7) (v := ?_) rfl (by kernel_rfl) (by kernel_rfl) (by kernel_rfl) (fun _ _ _ h => h) (Or.inl ⟨by rfl, ?_⟩) (by assumption) ?_
    rotate_left
    · intro w' hSw
      try dsimp only at hSw
      go_simp
      try with_reducible rfl
    try simp only [Act.put, List.getElem_toArray, List.getElem_cons_zero, List.getElem_cons_succ, List.setIfInBounds_toArray, List.set_cons_zero, List.set_cons_succ]
    refine wpAnyH_take (i := 8) (v := ?_) rfl (by kernel_rfl) (by kernel_rfl) (by kernel_rfl) (fun _ _ _ h => h) (Or.inl ⟨by rfl, ?_⟩) (by assumption) ?_
    rotate_left
    · intro w' hSw
      try dsimp only at hSw
      go_simp
      try with_reducible rfl
    try simp only [Act.put, List.getElem_toArray, List.getElem_cons_zero, List.getElem_cons_succ, List.setIfInBounds_toArray, List.set_cons_zero, List.set_cons_succ]
    refine wpAnyH_ready (rs := [9]) (by kernel_rfl) (by simp) ?_
    refine AllReadyH.cons rfl (fun K' hK => ?_) AllReadyH.nil
    go_simp
    refine hK.out _ _ (HSA.out hHeld) (fun hHeld => ?_)
    clear hK K'
    try simp only [Act.put, List.getElem_toArray, List.getElem_cons_zero, List.getElem_cons_succ, List.setIfInBounds_toArray, List.set_cons_zero, List.set_cons_succ]
    refine wpAnyH_ready (rs := [10]) (by kernel_rfl) (by simp) ?_
    refine AllReadyH.cons rfl (fun K' hK => ?_) AllReadyH.nil
    refine step_appN rfl (.tmp 26) (.tmp 35) 22 rfl w.heap.size 3 (.int .i64 0) 1 8 Try.underlying22 info3 (by decide) rfl (.slice gr i rc) i (its ((l.take i).map NM)) rfl HRA.out wr.heap.size [.int .i64 (q : Int)] rfl rfl HNW.out (by simp [Value.oneCell']) (by omega) HLO.out ?_
    intro v' w8 r8 g8 o8
    obtain ⟨gw, nw, rfl⟩ := row_sl r8
    have K8 : Ky w.heap.size (fun _ => False) [3] w w8 := (HKY.out.trans (Ky.later hsz HBA.out)).trans (Ky.own g8 HRA.out (by decide) HLO.out)
    have s8 := And.intro (HC.out _ K8.bel).1 (And.intro (HC.out _ K8.bel).2 (cellLater K8.bel y0))
    have HS8 := Hid.mk (And.intro r8 K8)
    clear r8 g8 o8 K8
    refine hK.out _ _ s8 (fun hHeld => ?_)
    clear hK K'
    try simp only [Act.put, List.getElem_toArray, List.getElem_cons_zero, List.getElem_cons_succ, List.setIfInBounds_toArray, List.set_cons_zero, List.set_cons_succ]
    refine wpAnyH_take (i := 11) (v := ?_) rfl (by kernel_rfl) (by kernel_rfl) (by kernel_rfl) (fun _ _ _ h => h) (Or.inl ⟨by rfl, ?_⟩) (by assumption) ?_
    rotate_left
    · intro w' hSw
      try dsimp only at hSw
      go_simp
      try with_reducible rfl
    try simp only [Act.put, List.getElem_toArray, List.getElem_cons_zero, List.getElem_cons_succ, List.setIfInBounds_toArray, List.set_cons_zero, List.set_cons_succ]
    refine wpAnyH_done (by kernel_rfl) ?_ _
    go_wp2
    go_roundw
    case rel =>
      refine ⟨i + 1, _, nw, by go_num, rfl, by omega, ⟨?_, HS8.out.2⟩⟩
      rw [HT.out, HNM2.out]
      exact HS8.out.1
    case measure => simp [intOf]; omega
end Go.Proofs.Ytncimddgkgclpaa
