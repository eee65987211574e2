/- Package tree's Size. -/
import Derived.Test.YtoedeedoecdajaaDoorWithin
import Derived.Test.YtoedeedoecdajaaDoorProgs
namespace Go.Proofs.YtoedeedoecdajaaDoor
open Go.RowKit
set_option linter.unusedVariables false
set_option linter.unusedSimpArgs false

def SizeOK (x : E) : Prop := ∀ (w : World) (ok : Nat → Prop) (c : List Value), (∀ g, ok g → g < w.heap.size) → isE w ok x c → Calls Tryd.prog 24 #[.agg c.toArray] w fun e w' => e = .returned (.int .i64 (szI (cntE x))) ∧ Below w.heap.size w w'
theorem own_cells {W : World} {base size m : Nat} {e : TypeId} {v : Value} {xs : List Value} (h : W.ownsRow base e size v m xs) (hm : 0 < m) : ∃ g cap, v = .slice (some ⟨g, 0, none⟩) m cap ∧ m ≤ cap ∧ ∀ j u, xs[j]? = some u → W.cell? ⟨g, j, none⟩ = some u := by
  obtain ⟨g, cap, rfl, hc⟩ := own_some h hm
  obtain ⟨_, _, e, hle⟩ := own_le h
  cases e
  refine ⟨g, cap, rfl, hle, fun j u hj => ?_⟩
  have := hc j u hj
  rw [show ((⟨g, 0, none⟩ : Addr).add j) = ⟨g, j, none⟩ by unfold Addr.add; split <;> simp_all] at this
  exact this

theorem own_max {W : World} {base size m : Nat} {e : TypeId} {v : Value} {xs : List Value} (h : W.ownsRow base e size v m xs) : m ≤ 9223372036854775807 := by
  rcases h.2 with ⟨rfl, h0⟩ | ⟨g, cap, cur, rfl, _, _, hc, hm, _⟩
  · omega
  · unfold maxLen at hm; omega

set_option maxRecDepth 100000 in
set_option maxHeartbeats 4000000 in
theorem sizeOf_step (x : E) (IH : ∀ y ∈ withinE x, SizeOK y) : SizeOK x := by
  intro w ok c hok I
  have B0 := fun o => (Below.refl w.heap.size w).alloc (Nat.le_refl _) o
  have WI := fun o => within_any (w := w.alloc o) (fun g hg => by have := hok g hg; simp; omega) (isE_keeps (keeps_below (B0 o) (fun _ h => h)) x c I)
  have HC : Hid (cntE x = 1 + sumC (withinE x)) := ⟨cnt_within x⟩
  obtain ⟨R, hR⟩ : ∃ R, szI (cntE x) = R := ⟨_, rfl⟩
  have HR : Hid (szI (cntE x) = R) := ⟨hR⟩
  rw [hR]
  obtain ⟨k', a', m', s', h4, h5, h6, h7, n4', n5', n6', n7', c4', c5', c6', c7', rfl⟩ := isE_eight I
  obtain ⟨L, hL⟩ : ∃ L, withinE x = L := ⟨_, rfl⟩
  rw [hL] at HC IH WI
  have HIH : Hid (∀ y ∈ L, SizeOK y) := ⟨IH⟩
  have HOK : Hid (∀ g, ok g → g < w.heap.size) := ⟨hok⟩
  clear hR hL IH I hok
  go_enter Tryd.func24, Tryd.ntmps24
  go_wp2_with (first
    | (go_at_call 38; refine (WI _).mono ?_; rintro e w1 ⟨v, rfl, xs, B1, OW, IS⟩; obtain ⟨gv, cv, rfl, hcv⟩ := own_le OW; have HIS : Hid (isEs w1 ok L xs) := ⟨IS⟩; have HOW : Hid (w1.ownsRow _ 46 8 (.slice gv L.length cv) L.length xs) := ⟨OW⟩; have HB1 : Hid (Below w.heap.size w w1) := ⟨(B0 _).trans (Joins.below_le B1 (by simp))⟩; clear IS OW B1))
  obtain ⟨n, hn⟩ : ∃ n, L.length = n := ⟨_, rfl⟩
  have HN : Hid (L.length = n) := ⟨hn⟩
  rw [hn] at HOW hcv ⊢
  have hn63 : n ≤ 9223372036854775807 := own_max HOW.out
  clear hn WI B0
  go_loopw [3, 9] (fun v c wr => ∃ k : Nat, c = .int .i64 k ∧ k ≤ n ∧ v = .int .i64 (szI (1 + sumC (L.take k))) ∧ Below w1.heap.size w1 wr) (fun _ c _ => n - (intOf c).toNat)
  case atStart => exact ⟨0, rfl, Nat.zero_le _, by simp [sumC]; rfl, Below.refl _ _⟩
  case round =>
    obtain ⟨k, rfl, hk, rfl, BW⟩ := hrel
    by_cases hlt : k < n
    · have kb : k < L.length := by rw [HN.out]; exact hlt
      obtain ⟨g, cap, e, _, hx⟩ := own_cells HOW.out (by omega)
      cases e
      obtain ⟨d, hd0, hd⟩ := isEs_get L xs HIS.out k kb
      obtain ⟨k0, a1, m1, s1, g4, g5, g6, g7, n4, n5, n6, n7, c4, c5, c6, c7, rfl⟩ := isE_eight hd0
      have x0 : wr.cell? ⟨g, k * 8, none⟩ = some (.int .i64 k0) := by have h0 := hx (k * 8 + 0) _ (hd 0 _ rfl); have h1 := (BW.cell (World.block_lt_of_cell? _ _ h0)).trans h0; simpa only [Nat.add_zero, ← Nat.add_assoc] using h1
      have x1 : wr.cell? ⟨g, k * 8 + 1, none⟩ = some (.int .i64 a1) := by have h0 := hx (k * 8 + 1) _ (hd 1 _ rfl); have h1 := (BW.cell (World.block_lt_of_cell? _ _ h0)).trans h0; simpa only [Nat.add_zero, ← Nat.add_assoc] using h1
      have x2 : wr.cell? ⟨g, k * 8 + 2, none⟩ = some (.string s1) := by have h0 := hx (k * 8 + 2) _ (hd 2 _ rfl); have h1 := (BW.cell (World.block_lt_of_cell? _ _ h0)).trans h0; simpa only [Nat.add_zero, ← Nat.add_assoc] using h1
      have x3 : wr.cell? ⟨g, k * 8 + 3, none⟩ = some (.int .i64 m1) := by have h0 := hx (k * 8 + 3) _ (hd 3 _ rfl); have h1 := (BW.cell (World.block_lt_of_cell? _ _ h0)).trans h0; simpa only [Nat.add_zero, ← Nat.add_assoc] using h1
      have x4 : wr.cell? ⟨g, k * 8 + 4, none⟩ = some (.slice g4 n4 c4) := by have h0 := hx (k * 8 + 4) _ (hd 4 _ rfl); have h1 := (BW.cell (World.block_lt_of_cell? _ _ h0)).trans h0; simpa only [Nat.add_zero, ← Nat.add_assoc] using h1
      have x5 : wr.cell? ⟨g, k * 8 + 5, none⟩ = some (.slice g5 n5 c5) := by have h0 := hx (k * 8 + 5) _ (hd 5 _ rfl); have h1 := (BW.cell (World.block_lt_of_cell? _ _ h0)).trans h0; simpa only [Nat.add_zero, ← Nat.add_assoc] using h1
      have x6 : wr.cell? ⟨g, k * 8 + 6, none⟩ = some (.slice g6 n6 c6) := by have h0 := hx (k * 8 + 6) _ (hd 6 _ rfl); have h1 := (BW.cell (World.block_lt_of_cell? _ _ h0)).trans h0; simpa only [Nat.add_zero, ← Nat.add_assoc] using h1
      have x7 : wr.cell? ⟨g, k * 8 + 7, none⟩ = some (.slice g7 n7 c7) := by have h0 := hx (k * 8 + 7) _ (hd 7 _ rfl); have h1 := (BW.cell (World.block_lt_of_cell? _ _ h0)).trans h0; simpa only [Nat.add_zero, ← Nat.add_assoc] using h1
      have hlt' : (k : Int) < n := by omega
      have SO : ∀ o, Calls Tryd.prog 24 #[.agg #[.int .i64 k0, .int .i64 a1, .string s1, .int .i64 m1, .slice g4 n4 c4, .slice g5 n5 c5, .slice g6 n6 c6, .slice g7 n7 c7]] (wr.alloc o) fun e w' => e = .returned (.int .i64 (szI (cntE (L[k]'kb)))) ∧ Below (wr.alloc o).heap.size (wr.alloc o) w' := fun o =>
        HIH.out (L[k]'kb) (List.getElem_mem kb) (wr.alloc o) ok _ (fun g hg => by have := HOK.out g hg; have := HB1.out.size; have := BW.size; simp; omega) (isE_keeps (keeps_below ((Below.refl wr.heap.size wr).alloc (Nat.le_refl _) o) (fun _ h => h)) _ _ (isE_keeps (keeps_below BW (fun _ h => h)) _ _ hd0))
      have HA : Hid (1 + sumC (L.take (k + 1)) = (1 + sumC (L.take k)) + cntE (L[k]'kb)) := ⟨by rw [take_more L k kb, sumC_app, sumC_cons]; simp [sumC]; omega⟩
      have ha := szI_add (1 + sumC (L.take k)) (cntE (L[k]'kb))
      rw [← HA.out] at ha
      obtain ⟨r, hr⟩ : ∃ r, szI (1 + sumC (L.take (k + 1))) = r := ⟨_, rfl⟩
      have HR2 : Hid (szI (1 + sumC (L.take (k + 1))) = r) := ⟨hr⟩
      rw [hr] at ha
      generalize szI (1 + sumC (L.take k)) = p at *
      generalize szI (cntE (L[k]'kb)) = q at *
      clear hr hx hd hd0
      go_wp2_with (first
        | (go_at_call 24; refine (SO _).mono ?_; rintro e w2 ⟨rfl, B2⟩; have BW2 := BW.trans (Joins.below_le (((Below.refl wr.heap.size wr).alloc (Nat.le_refl _) _).trans (Joins.below_le B2 (by simp))) BW.size)))
      go_roundw
      case rel => exact ⟨k + 1, by go_num, by omega, by rw [HR2.out], BW2⟩
      case measure => simp [intOf]; omega
    · obtain rfl : k = n := by omega
      have HX : Hid (szI (1 + sumC (L.take k)) = R) := ⟨by rw [← HR.out, HC.out, ← HN.out, List.take_length]⟩
      have HZ : Hid (Below w.heap.size w wr) := ⟨HB1.out.trans (Joins.below_le BW HB1.out.size)⟩
      generalize szI (1 + sumC (L.take k)) = p at *
      go_wp2
      go_ret
      exact ⟨by rw [← HX.out]; rfl, HZ.out⟩
theorem sizeOf_all : ∀ (n : Nat) (x : E), cntE x ≤ n → SizeOK x
  | 0, x, h => by have := cnt_within x; omega
  | n + 1, x, h => sizeOf_step x fun y hy => sizeOf_all n y (by have := within_less hy; omega)
theorem sizeOf_any (x : E) : SizeOK x := sizeOf_all _ x (Nat.le_refl _)
theorem sizeP_eq (p : Pg) : sizeP p = sumC (p.binds.map bodyB) := cnt_bs p.binds

set_option maxRecDepth 100000 in
set_option maxHeartbeats 4000000 in
theorem size_any {w : World} {ok : Nat → Prop} (hok : ∀ g, ok g → g < w.heap.size) {p : Pg} {v : Value} (I : isPV w ok p v) :
    Calls Tryd.prog 11 #[v] w fun e w' => e = .returned (.int .i64 (szI (sizeP p))) ∧ Below w.heap.size w w' := by
  obtain ⟨vd, vb, xb, rfl, ID, IB, IBS⟩ := I
  obtain ⟨gd, cd, rfl, _, _⟩ := row_parts ID
  obtain ⟨gb, cb, rfl, hb1, hb2⟩ := row_parts IB
  rw [sizeP_eq]
  obtain ⟨bs, hbs⟩ : ∃ bs, p.binds = bs := ⟨_, rfl⟩
  rw [hbs] at IB IBS hb1 hb2 ⊢
  obtain ⟨R, hR⟩ : ∃ R, szI (sumC (bs.map bodyB)) = R := ⟨_, rfl⟩
  have HR : Hid (szI (sumC (bs.map bodyB)) = R) := ⟨hR⟩
  rw [hR]
  obtain ⟨n, hn⟩ : ∃ n, bs.length = n := ⟨_, rfl⟩
  have HN : Hid (bs.length = n) := ⟨hn⟩
  rw [hn] at IB hb1 hb2 ⊢
  have HB : Hid (IsRow w ok xb n (.slice gb n cb)) := ⟨IB⟩
  have HBS : Hid (isBs w ok bs xb) := ⟨IBS⟩
  have HOK : Hid (∀ g, ok g → g < w.heap.size) := ⟨hok⟩
  clear hR hn IB IBS ID hok hbs
  go_enter Tryd.func11, Tryd.ntmps11
  go_wp2
  have HB0 : Hid (Below w.heap.size w (w.alloc (.cells #[.slice gd p.datas.length cd, .slice gb n cb] 25))) := ⟨(Below.refl _ w).alloc (Nat.le_refl _) _⟩
  generalize w.alloc _ = w0 at *
  go_loopw [3, 9] (fun v c wr => ∃ k : Nat, c = .int .i64 k ∧ k ≤ n ∧ v = .int .i64 (szI (sumC ((bs.take k).map bodyB))) ∧ Below w.heap.size w wr) (fun _ c _ => n - (intOf c).toNat)
  case atStart => exact ⟨0, rfl, Nat.zero_le _, by simp [sumC]; rfl, HB0.out⟩
  case round =>
    obtain ⟨k, rfl, hk, rfl, BW⟩ := hrel
    by_cases hlt : k < n
    · have kb : k < bs.length := by rw [HN.out]; exact hlt
      obtain ⟨g, off, rfl, hx⟩ := row_cell HB.out (by omega)
      obtain ⟨d, hd0, hd⟩ := isBs_get bs xb HBS.out k kb
      obtain ⟨a0, s0, g3, n3, c3, de, rfl, hde⟩ := isB_body hd0
      obtain ⟨k0, a1, m1, s1, g4, g5, g6, g7, n4, n5, n6, n7, c4, c5, c6, c7, rfl⟩ := isE_eight hde
      have x0 : wr.cell? ⟨g, off + k * 11, none⟩ = some (.string s0) := by have h0 := hx (k * 11 + 0) _ (hd 0 _ rfl); have h1 := (BW.cell (World.block_lt_of_cell? _ _ h0)).trans h0; simpa only [Nat.add_zero, ← Nat.add_assoc] using h1
      have x1 : wr.cell? ⟨g, off + k * 11 + 1, none⟩ = some (.int .i64 a0) := by have h0 := hx (k * 11 + 1) _ (hd 1 _ rfl); have h1 := (BW.cell (World.block_lt_of_cell? _ _ h0)).trans h0; simpa only [Nat.add_zero, ← Nat.add_assoc] using h1
      have x2 : wr.cell? ⟨g, off + k * 11 + 2, none⟩ = some (.slice g3 n3 c3) := by have h0 := hx (k * 11 + 2) _ (hd 2 _ rfl); have h1 := (BW.cell (World.block_lt_of_cell? _ _ h0)).trans h0; simpa only [Nat.add_zero, ← Nat.add_assoc] using h1
      have x3 : wr.cell? ⟨g, off + k * 11 + 3, none⟩ = some (.int .i64 k0) := by have h0 := hx (k * 11 + 3) _ (hd 3 _ rfl); have h1 := (BW.cell (World.block_lt_of_cell? _ _ h0)).trans h0; simpa only [Nat.add_zero, ← Nat.add_assoc] using h1
      have x4 : wr.cell? ⟨g, off + k * 11 + 4, none⟩ = some (.int .i64 a1) := by have h0 := hx (k * 11 + 4) _ (hd 4 _ rfl); have h1 := (BW.cell (World.block_lt_of_cell? _ _ h0)).trans h0; simpa only [Nat.add_zero, ← Nat.add_assoc] using h1
      have x5 : wr.cell? ⟨g, off + k * 11 + 5, none⟩ = some (.string s1) := by have h0 := hx (k * 11 + 5) _ (hd 5 _ rfl); have h1 := (BW.cell (World.block_lt_of_cell? _ _ h0)).trans h0; simpa only [Nat.add_zero, ← Nat.add_assoc] using h1
      have x6 : wr.cell? ⟨g, off + k * 11 + 6, none⟩ = some (.int .i64 m1) := by have h0 := hx (k * 11 + 6) _ (hd 6 _ rfl); have h1 := (BW.cell (World.block_lt_of_cell? _ _ h0)).trans h0; simpa only [Nat.add_zero, ← Nat.add_assoc] using h1
      have x7 : wr.cell? ⟨g, off + k * 11 + 7, none⟩ = some (.slice g4 n4 c4) := by have h0 := hx (k * 11 + 7) _ (hd 7 _ rfl); have h1 := (BW.cell (World.block_lt_of_cell? _ _ h0)).trans h0; simpa only [Nat.add_zero, ← Nat.add_assoc] using h1
      have x8 : wr.cell? ⟨g, off + k * 11 + 8, none⟩ = some (.slice g5 n5 c5) := by have h0 := hx (k * 11 + 8) _ (hd 8 _ rfl); have h1 := (BW.cell (World.block_lt_of_cell? _ _ h0)).trans h0; simpa only [Nat.add_zero, ← Nat.add_assoc] using h1
      have x9 : wr.cell? ⟨g, off + k * 11 + 9, none⟩ = some (.slice g6 n6 c6) := by have h0 := hx (k * 11 + 9) _ (hd 9 _ rfl); have h1 := (BW.cell (World.block_lt_of_cell? _ _ h0)).trans h0; simpa only [Nat.add_zero, ← Nat.add_assoc] using h1
      have x10 : wr.cell? ⟨g, off + k * 11 + 10, none⟩ = some (.slice g7 n7 c7) := by have h0 := hx (k * 11 + 10) _ (hd 10 _ rfl); have h1 := (BW.cell (World.block_lt_of_cell? _ _ h0)).trans h0; simpa only [Nat.add_zero, ← Nat.add_assoc] using h1
      have hlt' : (k : Int) < n := by omega
      have SO : ∀ o, Calls Tryd.prog 24 #[.agg #[.int .i64 k0, .int .i64 a1, .string s1, .int .i64 m1, .slice g4 n4 c4, .slice g5 n5 c5, .slice g6 n6 c6, .slice g7 n7 c7]] (wr.alloc o) fun e w' => e = .returned (.int .i64 (szI (cntE (bodyB (bs[k]'kb))))) ∧ Below (wr.alloc o).heap.size (wr.alloc o) w' := fun o =>
        sizeOf_any (bodyB (bs[k]'kb)) (wr.alloc o) ok _ (fun g hg => by have := HOK.out g hg; have := BW.size; simp; omega) (isE_keeps (keeps_below ((Below.refl wr.heap.size wr).alloc (Nat.le_refl _) o) (fun _ h => h)) _ _ (isE_keeps (keeps_below BW (fun _ h => h)) _ _ hde))
      have HA : Hid (sumC ((bs.take (k + 1)).map bodyB) = sumC ((bs.take k).map bodyB) + cntE (bodyB (bs[k]'kb))) := ⟨by rw [take_more bs k kb, List.map_append, sumC_app]; simp [sumC]⟩
      have ha := szI_add (sumC ((bs.take k).map bodyB)) (cntE (bodyB (bs[k]'kb)))
      rw [← HA.out] at ha
      obtain ⟨r, hr⟩ : ∃ r, szI (sumC ((bs.take (k + 1)).map bodyB)) = r := ⟨_, rfl⟩
      have HR2 : Hid (szI (sumC ((bs.take (k + 1)).map bodyB)) = r) := ⟨hr⟩
      rw [hr] at ha
      generalize szI (sumC ((bs.take k).map bodyB)) = p at *
      generalize szI (cntE (bodyB (bs[k]'kb))) = q at *
      clear hr hx hd hd0 hde
      go_wp2_with (first
        | (go_at_call 24; refine (SO _).mono ?_; rintro e w2 ⟨rfl, B2⟩; have BW2 := BW.trans (Joins.below_le (((Below.refl wr.heap.size wr).alloc (Nat.le_refl _) _).trans (Joins.below_le B2 (by simp))) BW.size)))
      go_roundw
      case rel => exact ⟨k + 1, by go_num, by omega, by rw [HR2.out], BW2⟩
      case measure => simp [intOf]; omega
    · obtain rfl : k = n := by omega
      have HX : Hid (szI (sumC ((bs.take k).map bodyB)) = R) := ⟨by rw [← HR.out, ← HN.out, List.take_length]⟩
      generalize szI (sumC ((bs.take k).map bodyB)) = p at *
      go_wp2
      go_ret
      exact ⟨by rw [← HX.out]; rfl, BW⟩

end Go.Proofs.YtoedeedoecdajaaDoor
