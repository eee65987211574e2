/- The document's comparison, where both sides are the same: binds, alternatives, programs. -/
import Derived.Test.YtoedeedoecdajaaDoorRefSame
import Derived.Test.YtoedeedoecdajaaDoorSize
import Derived.Test.YtoedeedoecdajaaDoorProgs
import Derived.Deep.CutRange
namespace Go.Proofs.YtoedeedoecdajaaDoor
open Go.RowKit
set_option linter.unusedVariables false
set_option linter.unusedSimpArgs false

def nameB : B → List UInt8
  | .mk n _ _ _ => n
def argsB : B → List (List UInt8)
  | .mk _ _ al _ => al
theorem isB_parts {w : World} {ok : Nat → Prop} {x : B} {c : List Value} (h : isB w ok x c) : ∃ (a0 : Int) (ga : Option Addr) (ca : Nat) (d : List Value), c = [.string (str (nameB x)), .int .i64 a0, .slice ga (argsB x).length ca] ++ d ∧ IsRow w ok (strC (argsB x)) (argsB x).length (.slice ga (argsB x).length ca) ∧ isE w ok (bodyB x) d := by
  obtain ⟨n, a, al, x⟩ := x
  simp only [isB] at h
  obtain ⟨va, d, rfl, IR, h⟩ := h
  obtain ⟨ga, ca, rfl, _⟩ := row_parts IR
  exact ⟨_, ga, ca, d, rfl, IR, h⟩
theorem sameBs_pair : ∀ (a b : List B), sameBs a b = true → a.length = b.length ∧ ∀ i (h : i < a.length) (h' : i < b.length), nameB (a[i]'h) = nameB (b[i]'h') ∧ argsB (a[i]'h) = argsB (b[i]'h') ∧ sameE (bodyB (a[i]'h)) (bodyB (b[i]'h')) = true
  | [], [], _ => ⟨rfl, fun i h => absurd h (Nat.not_lt_zero _)⟩
  | [], _ :: _, h => by simp [sameBs] at h
  | _ :: _, [], h => by simp [sameBs] at h
  | .mk n p al x :: a, .mk n' p' al' x' :: b, h => by
    simp only [sameBs, sameB, Bool.and_eq_true, decide_eq_true_eq] at h
    have ih := sameBs_pair a b h.2
    refine ⟨by simp [ih.1], fun i hi hi' => ?_⟩
    cases i with
    | zero => exact ⟨h.1.1.1, h.1.1.2, h.1.2⟩
    | succ i => exact ih.2 i (by simpa using hi) (by simpa using hi')
theorem any_keeps {w w' : World} (h : Below w.heap.size w w') : Keeps anyB anyB w w' := keeps_below h (fun _ h => h)
theorem texts_same {w : World} {a b : List (List UInt8)} {va vb : Value} (A : IsRow w anyB (strC a) a.length va) (B : IsRow w anyB (strC b) b.length vb) (h : a = b) (W : World) (hW : Below w.heap.size w W) :
    Calls Tryd.prog 31 #[va, vb] W fun e w' => e = .returned (.bool true) ∧ Below W.heap.size W w' :=
  (texts_any W a b va vb (A.keeps (any_keeps hW)) (B.keeps (any_keeps hW))).mono fun e w' ⟨he, q, hq⟩ => ⟨by rw [he, decide_eq_true h], by subst hq; exact ⟨rfl, rfl, rfl, Nat.le_refl _, fun _ _ => rfl⟩⟩

set_option maxRecDepth 100000 in
set_option maxHeartbeats 8000000 in
theorem binds_same (w : World) (a b : List B) (va vb : Value) (xa xb : List Value) (A : IsRow w anyB xa a.length va) (A' : isBs w anyB a xa) (B : IsRow w anyB xb b.length vb) (B' : isBs w anyB b xb)
    (H : ∀ x ∈ a, ∀ y, sameE (bodyB x) y = true → ExpsOK (bodyB x) y) (hs : sameBs a b = true) : Calls Tryd.prog 19 #[va, vb] w fun e w' => e = .returned (.bool true) ∧ Below w.heap.size w w' := by
  obtain ⟨hlen, hp⟩ := sameBs_pair a b hs
  obtain ⟨ga, ca, rfl, _, hn⟩ := row_parts A
  obtain ⟨gb, cb, rfl, _, _⟩ := row_parts B
  obtain ⟨n, hnn⟩ : ∃ n, a.length = n := ⟨_, rfl⟩
  have hmm : b.length = n := by rw [← hlen, hnn]
  have HA : Hid (a.length = n) := ⟨hnn⟩
  have HB : Hid (b.length = n) := ⟨hmm⟩
  rw [hnn] at A hn ⊢
  rw [hmm] at B ⊢
  have A0 : Hid (IsRow w anyB xa n (.slice ga n ca)) := ⟨A⟩
  have B0 : Hid (IsRow w anyB xb n (.slice gb n cb)) := ⟨B⟩
  have A1 : Hid (isBs w anyB a xa) := ⟨A'⟩
  have B1 : Hid (isBs w anyB b xb) := ⟨B'⟩
  have HH : Hid (∀ x ∈ a, ∀ y, sameE (bodyB x) y = true → ExpsOK (bodyB x) y) := ⟨H⟩
  have HPR : Hid (∀ i (h : i < a.length) (h' : i < b.length), nameB (a[i]'h) = nameB (b[i]'h') ∧ argsB (a[i]'h) = argsB (b[i]'h') ∧ sameE (bodyB (a[i]'h)) (bodyB (b[i]'h')) = true) := ⟨hp⟩
  clear hlen hp hnn hmm A B A' B' H hs
  go_enter Tryd.func19, Tryd.ntmps19
  go_wp2
  go_loopw [5] (fun c wr => ∃ k : Nat, c = .int .i64 k ∧ k ≤ n ∧ Below w.heap.size w wr) (fun c _ => n - (intOf c).toNat)
  case atStart => exact ⟨0, rfl, Nat.zero_le _, Below.refl _ _⟩
  case round =>
    obtain ⟨k, rfl, hk, BW⟩ := hrel
    by_cases hlt : k < n
    · have ka : k < a.length := by rw [HA.out]; exact hlt
      have kb : k < b.length := by rw [HB.out]; exact hlt
      obtain ⟨g, off, rfl, hx⟩ := row_cell A0.out (by omega)
      obtain ⟨g', off', rfl, hy⟩ := row_cell B0.out (by omega)
      obtain ⟨e1, e2, e3⟩ := HPR.out k ka kb
      obtain ⟨d, hd0, hd⟩ := isBs_get a xa A1.out k ka
      obtain ⟨d', hd0', hd'⟩ := isBs_get b xb B1.out k kb
      obtain ⟨ax, gx, cx, dx, rfl, IX, IE⟩ := isB_parts hd0
      obtain ⟨ay, gy, cy, dy, rfl, IY, IF⟩ := isB_parts hd0'
      have TX := texts_same IX IY e2
      have EX : ∀ W, Below w.heap.size w W → Calls Tryd.prog 32 #[.agg dx.toArray, .agg dy.toArray] W fun e w' => e = .returned (.bool true) ∧ Below W.heap.size W w' := fun W hW => by
        have q := HH.out (a[k]'ka) (List.getElem_mem ka) (bodyB (b[k]'kb)) e3 W dx dy (isE_keeps (any_keeps hW) _ _ IE) (isE_keeps (any_keeps hW) _ _ IF)
        rw [e3] at q
        exact q
      obtain ⟨kx, ax, mx, sx, gx4, gx5, gx6, gx7, nx4, nx5, nx6, nx7, cx4, cx5, cx6, cx7, rfl⟩ := isE_eight IE
      obtain ⟨ky, ay, my, sy, gy4, gy5, gy6, gy7, ny4, ny5, ny6, ny7, cy4, cy5, cy6, cy7, rfl⟩ := isE_eight IF
      obtain ⟨nx, hnx⟩ : ∃ nx, (argsB (a[k]'ka)).length = nx := ⟨_, rfl⟩
      obtain ⟨ny, hny⟩ : ∃ ny, (argsB (b[k]'kb)).length = ny := ⟨_, rfl⟩
      obtain ⟨nm, hnm⟩ : ∃ nm, nameB (b[k]'kb) = nm := ⟨_, rfl⟩
      rw [hnx, e1, hnm] at hd
      rw [hny, hnm] at hd'
      rw [hnx, hny] at TX
      have x0 : wr.cell? ⟨g, off + k * 11, none⟩ = some (.string (str nm)) := by have h0 := hx (k * 11 + 0) _ (hd 0 _ rfl); have h1 := (BW.cell (World.block_lt_of_cell? _ _ h0)).trans h0; simpa only [Nat.add_zero, ← Nat.add_assoc] using h1
      have x2 : wr.cell? ⟨g, off + k * 11 + 2, none⟩ = some (.slice gx nx cx) := by have h0 := hx (k * 11 + 2) _ (hd 2 _ rfl); have h1 := (BW.cell (World.block_lt_of_cell? _ _ h0)).trans h0; simpa only [Nat.add_zero, ← Nat.add_assoc] using h1
      have x3 : wr.cell? ⟨g, off + k * 11 + 3, none⟩ = some (.int .i64 kx) := by have h0 := hx (k * 11 + 3) _ (hd 3 _ rfl); have h1 := (BW.cell (World.block_lt_of_cell? _ _ h0)).trans h0; simpa only [Nat.add_zero, ← Nat.add_assoc] using h1
      have x4 : wr.cell? ⟨g, off + k * 11 + 4, none⟩ = some (.int .i64 ax) := by have h0 := hx (k * 11 + 4) _ (hd 4 _ rfl); have h1 := (BW.cell (World.block_lt_of_cell? _ _ h0)).trans h0; simpa only [Nat.add_zero, ← Nat.add_assoc] using h1
      have x5 : wr.cell? ⟨g, off + k * 11 + 5, none⟩ = some (.string sx) := by have h0 := hx (k * 11 + 5) _ (hd 5 _ rfl); have h1 := (BW.cell (World.block_lt_of_cell? _ _ h0)).trans h0; simpa only [Nat.add_zero, ← Nat.add_assoc] using h1
      have x6 : wr.cell? ⟨g, off + k * 11 + 6, none⟩ = some (.int .i64 mx) := by have h0 := hx (k * 11 + 6) _ (hd 6 _ rfl); have h1 := (BW.cell (World.block_lt_of_cell? _ _ h0)).trans h0; simpa only [Nat.add_zero, ← Nat.add_assoc] using h1
      have x7 : wr.cell? ⟨g, off + k * 11 + 7, none⟩ = some (.slice gx4 nx4 cx4) := by have h0 := hx (k * 11 + 7) _ (hd 7 _ rfl); have h1 := (BW.cell (World.block_lt_of_cell? _ _ h0)).trans h0; simpa only [Nat.add_zero, ← Nat.add_assoc] using h1
      have x8 : wr.cell? ⟨g, off + k * 11 + 8, none⟩ = some (.slice gx5 nx5 cx5) := by have h0 := hx (k * 11 + 8) _ (hd 8 _ rfl); have h1 := (BW.cell (World.block_lt_of_cell? _ _ h0)).trans h0; simpa only [Nat.add_zero, ← Nat.add_assoc] using h1
      have x9 : wr.cell? ⟨g, off + k * 11 + 9, none⟩ = some (.slice gx6 nx6 cx6) := by have h0 := hx (k * 11 + 9) _ (hd 9 _ rfl); have h1 := (BW.cell (World.block_lt_of_cell? _ _ h0)).trans h0; simpa only [Nat.add_zero, ← Nat.add_assoc] using h1
      have x10 : wr.cell? ⟨g, off + k * 11 + 10, none⟩ = some (.slice gx7 nx7 cx7) := by have h0 := hx (k * 11 + 10) _ (hd 10 _ rfl); have h1 := (BW.cell (World.block_lt_of_cell? _ _ h0)).trans h0; simpa only [Nat.add_zero, ← Nat.add_assoc] using h1
      have y0 : wr.cell? ⟨g', off' + k * 11, none⟩ = some (.string (str nm)) := by have h0 := hy (k * 11 + 0) _ (hd' 0 _ rfl); have h1 := (BW.cell (World.block_lt_of_cell? _ _ h0)).trans h0; simpa only [Nat.add_zero, ← Nat.add_assoc] using h1
      have y2 : wr.cell? ⟨g', off' + k * 11 + 2, none⟩ = some (.slice gy ny cy) := by have h0 := hy (k * 11 + 2) _ (hd' 2 _ rfl); have h1 := (BW.cell (World.block_lt_of_cell? _ _ h0)).trans h0; simpa only [Nat.add_zero, ← Nat.add_assoc] using h1
      have y3 : wr.cell? ⟨g', off' + k * 11 + 3, none⟩ = some (.int .i64 ky) := by have h0 := hy (k * 11 + 3) _ (hd' 3 _ rfl); have h1 := (BW.cell (World.block_lt_of_cell? _ _ h0)).trans h0; simpa only [Nat.add_zero, ← Nat.add_assoc] using h1
      have y4 : wr.cell? ⟨g', off' + k * 11 + 4, none⟩ = some (.int .i64 ay) := by have h0 := hy (k * 11 + 4) _ (hd' 4 _ rfl); have h1 := (BW.cell (World.block_lt_of_cell? _ _ h0)).trans h0; simpa only [Nat.add_zero, ← Nat.add_assoc] using h1
      have y5 : wr.cell? ⟨g', off' + k * 11 + 5, none⟩ = some (.string sy) := by have h0 := hy (k * 11 + 5) _ (hd' 5 _ rfl); have h1 := (BW.cell (World.block_lt_of_cell? _ _ h0)).trans h0; simpa only [Nat.add_zero, ← Nat.add_assoc] using h1
      have y6 : wr.cell? ⟨g', off' + k * 11 + 6, none⟩ = some (.int .i64 my) := by have h0 := hy (k * 11 + 6) _ (hd' 6 _ rfl); have h1 := (BW.cell (World.block_lt_of_cell? _ _ h0)).trans h0; simpa only [Nat.add_zero, ← Nat.add_assoc] using h1
      have y7 : wr.cell? ⟨g', off' + k * 11 + 7, none⟩ = some (.slice gy4 ny4 cy4) := by have h0 := hy (k * 11 + 7) _ (hd' 7 _ rfl); have h1 := (BW.cell (World.block_lt_of_cell? _ _ h0)).trans h0; simpa only [Nat.add_zero, ← Nat.add_assoc] using h1
      have y8 : wr.cell? ⟨g', off' + k * 11 + 8, none⟩ = some (.slice gy5 ny5 cy5) := by have h0 := hy (k * 11 + 8) _ (hd' 8 _ rfl); have h1 := (BW.cell (World.block_lt_of_cell? _ _ h0)).trans h0; simpa only [Nat.add_zero, ← Nat.add_assoc] using h1
      have y9 : wr.cell? ⟨g', off' + k * 11 + 9, none⟩ = some (.slice gy6 ny6 cy6) := by have h0 := hy (k * 11 + 9) _ (hd' 9 _ rfl); have h1 := (BW.cell (World.block_lt_of_cell? _ _ h0)).trans h0; simpa only [Nat.add_zero, ← Nat.add_assoc] using h1
      have y10 : wr.cell? ⟨g', off' + k * 11 + 10, none⟩ = some (.slice gy7 ny7 cy7) := by have h0 := hy (k * 11 + 10) _ (hd' 10 _ rfl); have h1 := (BW.cell (World.block_lt_of_cell? _ _ h0)).trans h0; simpa only [Nat.add_zero, ← Nat.add_assoc] using h1
      have hlt' : (k : Int) < n := by omega
      have nt : ((str nm).toList == (str nm).toList) = true := by simp
      have nt' : ((str nm).toList != (str nm).toList) = false := by simp
      clear hx hy hd hd' hd0 hd0' IX IY IE IF e1 e2 e3 hnx hny hnm
      go_wp2
      go_region_held3 (fun w' => w'.cell? ⟨g, off + k * 11, none⟩ = some (.string (str nm)) ∧ w'.cell? ⟨g, off + k * 11 + 2, none⟩ = some (.slice gx nx cx) ∧ w'.cell? ⟨g, off + k * 11 + 3, none⟩ = some (.int .i64 kx) ∧ w'.cell? ⟨g, off + k * 11 + 4, none⟩ = some (.int .i64 ax) ∧ w'.cell? ⟨g, off + k * 11 + 5, none⟩ = some (.string sx) ∧ w'.cell? ⟨g, off + k * 11 + 6, none⟩ = some (.int .i64 mx) ∧ w'.cell? ⟨g, off + k * 11 + 7, none⟩ = some (.slice gx4 nx4 cx4) ∧ w'.cell? ⟨g, off + k * 11 + 8, none⟩ = some (.slice gx5 nx5 cx5) ∧ w'.cell? ⟨g, off + k * 11 + 9, none⟩ = some (.slice gx6 nx6 cx6) ∧ w'.cell? ⟨g, off + k * 11 + 10, none⟩ = some (.slice gx7 nx7 cx7) ∧ w'.cell? ⟨g', off' + k * 11, none⟩ = some (.string (str nm)) ∧ w'.cell? ⟨g', off' + k * 11 + 2, none⟩ = some (.slice gy ny cy) ∧ w'.cell? ⟨g', off' + k * 11 + 3, none⟩ = some (.int .i64 ky) ∧ w'.cell? ⟨g', off' + k * 11 + 4, none⟩ = some (.int .i64 ay) ∧ w'.cell? ⟨g', off' + k * 11 + 5, none⟩ = some (.string sy) ∧ w'.cell? ⟨g', off' + k * 11 + 6, none⟩ = some (.int .i64 my) ∧ w'.cell? ⟨g', off' + k * 11 + 7, none⟩ = some (.slice gy4 ny4 cy4) ∧ w'.cell? ⟨g', off' + k * 11 + 8, none⟩ = some (.slice gy5 ny5 cy5) ∧ w'.cell? ⟨g', off' + k * 11 + 9, none⟩ = some (.slice gy6 ny6 cy6) ∧ w'.cell? ⟨g', off' + k * 11 + 10, none⟩ = some (.slice gy7 ny7 cy7)) (go_keep) (first
        | (go_at_call 31; refine (TX _ BW.drew).mono ?_; rintro e w7 ⟨rfl, B7⟩; have BW7 := BW.drew.trans (Joins.below_le B7 BW.size); have X7x0 := (B7.cell (World.block_lt_of_cell? _ _ x0)).trans x0; have X7x2 := (B7.cell (World.block_lt_of_cell? _ _ x2)).trans x2; have X7x3 := (B7.cell (World.block_lt_of_cell? _ _ x3)).trans x3; have X7x4 := (B7.cell (World.block_lt_of_cell? _ _ x4)).trans x4; have X7x5 := (B7.cell (World.block_lt_of_cell? _ _ x5)).trans x5; have X7x6 := (B7.cell (World.block_lt_of_cell? _ _ x6)).trans x6; have X7x7 := (B7.cell (World.block_lt_of_cell? _ _ x7)).trans x7; have X7x8 := (B7.cell (World.block_lt_of_cell? _ _ x8)).trans x8; have X7x9 := (B7.cell (World.block_lt_of_cell? _ _ x9)).trans x9; have X7x10 := (B7.cell (World.block_lt_of_cell? _ _ x10)).trans x10; have X7y0 := (B7.cell (World.block_lt_of_cell? _ _ y0)).trans y0; have X7y2 := (B7.cell (World.block_lt_of_cell? _ _ y2)).trans y2; have X7y3 := (B7.cell (World.block_lt_of_cell? _ _ y3)).trans y3; have X7y4 := (B7.cell (World.block_lt_of_cell? _ _ y4)).trans y4; have X7y5 := (B7.cell (World.block_lt_of_cell? _ _ y5)).trans y5; have X7y6 := (B7.cell (World.block_lt_of_cell? _ _ y6)).trans y6; have X7y7 := (B7.cell (World.block_lt_of_cell? _ _ y7)).trans y7; have X7y8 := (B7.cell (World.block_lt_of_cell? _ _ y8)).trans y8; have X7y9 := (B7.cell (World.block_lt_of_cell? _ _ y9)).trans y9; have X7y10 := (B7.cell (World.block_lt_of_cell? _ _ y10)).trans y10)
        | (go_at_call 32; refine (EX _ BW7).mono ?_; rintro e w8 ⟨rfl, B8⟩; have BW8 := BW7.trans (Joins.below_le B8 BW7.size); have X8x0 := (B8.cell (World.block_lt_of_cell? _ _ X7x0)).trans X7x0; have X8x2 := (B8.cell (World.block_lt_of_cell? _ _ X7x2)).trans X7x2; have X8x3 := (B8.cell (World.block_lt_of_cell? _ _ X7x3)).trans X7x3; have X8x4 := (B8.cell (World.block_lt_of_cell? _ _ X7x4)).trans X7x4; have X8x5 := (B8.cell (World.block_lt_of_cell? _ _ X7x5)).trans X7x5; have X8x6 := (B8.cell (World.block_lt_of_cell? _ _ X7x6)).trans X7x6; have X8x7 := (B8.cell (World.block_lt_of_cell? _ _ X7x7)).trans X7x7; have X8x8 := (B8.cell (World.block_lt_of_cell? _ _ X7x8)).trans X7x8; have X8x9 := (B8.cell (World.block_lt_of_cell? _ _ X7x9)).trans X7x9; have X8x10 := (B8.cell (World.block_lt_of_cell? _ _ X7x10)).trans X7x10; have X8y0 := (B8.cell (World.block_lt_of_cell? _ _ X7y0)).trans X7y0; have X8y2 := (B8.cell (World.block_lt_of_cell? _ _ X7y2)).trans X7y2; have X8y3 := (B8.cell (World.block_lt_of_cell? _ _ X7y3)).trans X7y3; have X8y4 := (B8.cell (World.block_lt_of_cell? _ _ X7y4)).trans X7y4; have X8y5 := (B8.cell (World.block_lt_of_cell? _ _ X7y5)).trans X7y5; have X8y6 := (B8.cell (World.block_lt_of_cell? _ _ X7y6)).trans X7y6; have X8y7 := (B8.cell (World.block_lt_of_cell? _ _ X7y7)).trans X7y7; have X8y8 := (B8.cell (World.block_lt_of_cell? _ _ X7y8)).trans X7y8; have X8y9 := (B8.cell (World.block_lt_of_cell? _ _ X7y9)).trans X7y9; have X8y10 := (B8.cell (World.block_lt_of_cell? _ _ X7y10)).trans X7y10))
      all_goals go_wp2
      all_goals
        refine ⟨⟨k + 1, by go_num, by omega, BW8⟩, ?_⟩
        simp [intOf]
        omega
    · obtain rfl : k = n := by omega
      go_wp2
      go_ret
      exact ⟨rfl, BW⟩

end Go.Proofs.YtoedeedoecdajaaDoor

/- The document's comparison, where both sides are the same: alternatives, expressions, programs. -/
namespace Go.Proofs.YtoedeedoecdajaaDoor
open Go.RowKit
set_option linter.unusedVariables false
set_option linter.unusedSimpArgs false

def nameA : A → List UInt8
  | .mk _ _ n _ _ _ => n
def numA : A → Int
  | .mk _ _ _ m _ _ => m
def varsA : A → List (List UInt8)
  | .mk _ _ _ _ vs _ => vs
theorem isA_parts {w : World} {ok : Nat → Prop} {x : A} {c : List Value} (h : isA w ok x c) : ∃ (p : Int) (ga : Option Addr) (ca : Nat) (d : List Value), c = [.int .i64 (kindA x), .int .i64 p, .string (str (nameA x)), .int .i64 (numA x), .slice ga (varsA x).length ca] ++ d ∧ IsRow w ok (strC (varsA x)) (varsA x).length (.slice ga (varsA x).length ca) ∧ isE w ok (bodyA x) d := by
  obtain ⟨k, a, n, m, vs, x⟩ := x
  simp only [isA] at h
  obtain ⟨va, d, rfl, IR, h⟩ := h
  obtain ⟨ga, ca, rfl, _⟩ := row_parts IR
  exact ⟨_, ga, ca, d, rfl, IR, h⟩
theorem sameAs_pair : ∀ (a b : List A), sameAs a b = true → a.length = b.length ∧ ∀ i (h : i < a.length) (h' : i < b.length), kindA (a[i]'h) = kindA (b[i]'h') ∧ sameE (bodyA (a[i]'h)) (bodyA (b[i]'h')) = true ∧
    (kindA (a[i]'h) = 1 ∨ kindA (a[i]'h) = 3 → nameA (a[i]'h) = nameA (b[i]'h')) ∧ (kindA (a[i]'h) = 2 → numA (a[i]'h) = numA (b[i]'h')) ∧ (kindA (a[i]'h) = 1 → varsA (a[i]'h) = varsA (b[i]'h'))
  | [], [], _ => ⟨rfl, fun i h => absurd h (Nat.not_lt_zero _)⟩
  | [], _ :: _, h => by simp [sameAs] at h
  | _ :: _, [], h => by simp [sameAs] at h
  | .mk k p n m vs x :: a, .mk k' p' n' m' vs' x' :: b, h => by
    simp only [sameAs, sameA, Bool.and_eq_true, Bool.or_eq_true, decide_eq_true_eq] at h
    have ih := sameAs_pair a b h.2
    obtain ⟨⟨⟨⟨⟨h1, h2⟩, h3⟩, h4⟩, h5⟩, _⟩ := h
    refine ⟨by simp [ih.1], fun i hi hi' => ?_⟩
    cases i with
    | zero => exact ⟨h1, h2, fun z => h3.resolve_left (fun q => q z), fun z => h4.resolve_left (fun q => q z), fun z => h5.resolve_left (fun q => q z)⟩
    | succ i => exact ih.2 i (by simpa using hi) (by simpa using hi')
theorem Blk.drew' {w : World} {m : Nat} {cs : Array Value} {t : TypeId} (h : Blk w m cs t) : Blk w.drew m cs t := h.kept (grown_drew _) (by simp)
theorem alloc2_below {w wr : World} (BW : Below w.heap.size w wr) (o o' : Obj) : Below w.heap.size w ((wr.alloc o).alloc o').drew := ((BW.alloc BW.size o).alloc (by have := BW.size; simp; omega) o').drew

set_option maxRecDepth 100000 in
set_option maxHeartbeats 8000000 in
theorem alts_same (w : World) (a b : List A) (va vb : Value) (xa xb : List Value) (A : IsRow w anyB xa a.length va) (A' : isAs w anyB a xa) (B : IsRow w anyB xb b.length vb) (B' : isAs w anyB b xb)
    (H : ∀ x ∈ a, ∀ y, sameE (bodyA x) y = true → ExpsOK (bodyA x) y) (hs : sameAs a b = true) : Calls Tryd.prog 55 #[va, vb] w fun e w' => e = .returned (.bool true) ∧ Below w.heap.size w w' := by
  obtain ⟨hlen, hp⟩ := sameAs_pair a b hs
  obtain ⟨ga, ca, rfl, _, hn⟩ := row_parts A
  obtain ⟨gb, cb, rfl, _, _⟩ := row_parts B
  obtain ⟨n, hnn⟩ : ∃ n, a.length = n := ⟨_, rfl⟩
  have hmm : b.length = n := by rw [← hlen, hnn]
  have HA : Hid (a.length = n) := ⟨hnn⟩
  have HB : Hid (b.length = n) := ⟨hmm⟩
  rw [hnn] at A hn ⊢
  rw [hmm] at B ⊢
  have A0 : Hid (IsRow w anyB xa n (.slice ga n ca)) := ⟨A⟩
  have B0 : Hid (IsRow w anyB xb n (.slice gb n cb)) := ⟨B⟩
  have A1 : Hid (isAs w anyB a xa) := ⟨A'⟩
  have B1 : Hid (isAs w anyB b xb) := ⟨B'⟩
  have HH : Hid (∀ x ∈ a, ∀ y, sameE (bodyA x) y = true → ExpsOK (bodyA x) y) := ⟨H⟩
  have HPR : Hid (∀ i (h : i < a.length) (h' : i < b.length), kindA (a[i]'h) = kindA (b[i]'h') ∧ sameE (bodyA (a[i]'h)) (bodyA (b[i]'h')) = true ∧
    (kindA (a[i]'h) = 1 ∨ kindA (a[i]'h) = 3 → nameA (a[i]'h) = nameA (b[i]'h')) ∧ (kindA (a[i]'h) = 2 → numA (a[i]'h) = numA (b[i]'h')) ∧ (kindA (a[i]'h) = 1 → varsA (a[i]'h) = varsA (b[i]'h'))) := ⟨hp⟩
  clear hlen hp hnn hmm A B A' B' H hs
  go_enter Tryd.func55, Tryd.ntmps55
  go_wp2
  go_loopw [5] (fun c wr => ∃ k : Nat, c = .int .i64 k ∧ k ≤ n ∧ Below w.heap.size w wr) (fun c _ => n - (intOf c).toNat)
  case atStart => exact ⟨0, rfl, Nat.zero_le _, Below.refl _ _⟩
  case round =>
    obtain ⟨k, rfl, hk, BW⟩ := hrel
    by_cases hlt : k < n
    · have ka : k < a.length := by rw [HA.out]; exact hlt
      have kb : k < b.length := by rw [HB.out]; exact hlt
      obtain ⟨g, off, rfl, hx⟩ := row_cell A0.out (by omega)
      obtain ⟨g', off', rfl, hy⟩ := row_cell B0.out (by omega)
      obtain ⟨e1, e2, e3, e4, e5⟩ := HPR.out k ka kb
      obtain ⟨d, hd0, hd⟩ := isAs_get a xa A1.out k ka
      obtain ⟨d', hd0', hd'⟩ := isAs_get b xb B1.out k kb
      obtain ⟨px, gx, cx, dx, rfl, IX, IE⟩ := isA_parts hd0
      obtain ⟨py, gy, cy, dy, rfl, IY, IF⟩ := isA_parts hd0'
      have TX := texts_same IX IY
      have EX : ∀ W, Below w.heap.size w W → Calls Tryd.prog 32 #[.agg dx.toArray, .agg dy.toArray] W fun e w' => e = .returned (.bool true) ∧ Below W.heap.size W w' := fun W hW => by
        have q := HH.out (a[k]'ka) (List.getElem_mem ka) (bodyA (b[k]'kb)) e2 W dx dy (isE_keeps (any_keeps hW) _ _ IE) (isE_keeps (any_keeps hW) _ _ IF)
        rw [e2] at q
        exact q
      obtain ⟨kx, ax, mx, sx, gx4, gx5, gx6, gx7, nx4, nx5, nx6, nx7, cx4, cx5, cx6, cx7, rfl⟩ := isE_eight IE
      obtain ⟨ky, ay, my, sy, gy4, gy5, gy6, gy7, ny4, ny5, ny6, ny7, cy4, cy5, cy6, cy7, rfl⟩ := isE_eight IF
      obtain ⟨kk, hkk⟩ : ∃ kk, kindA (b[k]'kb) = kk := ⟨_, rfl⟩
      rw [e1, hkk] at hd e3 e4 e5
      rw [hkk] at hd'
      obtain ⟨lx, hlx⟩ : ∃ lx, (varsA (a[k]'ka)).length = lx := ⟨_, rfl⟩
      obtain ⟨ly, hly⟩ : ∃ ly, (varsA (b[k]'kb)).length = ly := ⟨_, rfl⟩
      obtain ⟨nx, hnx⟩ : ∃ nm, nameA (a[k]'ka) = nm := ⟨_, rfl⟩
      obtain ⟨ny, hny⟩ : ∃ nm, nameA (b[k]'kb) = nm := ⟨_, rfl⟩
      obtain ⟨qx, hmx⟩ : ∃ m, numA (a[k]'ka) = m := ⟨_, rfl⟩
      obtain ⟨qy, hmy⟩ : ∃ m, numA (b[k]'kb) = m := ⟨_, rfl⟩
      rw [hlx, hnx, hmx] at hd
      rw [hly, hny, hmy] at hd'
      rw [hnx, hny] at e3
      rw [hmx, hmy] at e4
      rw [hlx, hly] at TX
      have HTX : Hid (kk = 1 → ∀ W, Below w.heap.size w W → Calls Tryd.prog 31 #[.slice gx lx cx, .slice gy ly cy] W fun e w' => e = .returned (.bool true) ∧ Below W.heap.size W w') := ⟨fun z => TX (e5 z)⟩
      have H3 : Hid (kk = 1 ∨ kk = 3 → nx = ny) := ⟨e3⟩
      have H4 : Hid (kk = 2 → qx = qy) := ⟨e4⟩
      have x0 : wr.cell? ⟨g, off + k * 13, none⟩ = some (.int .i64 kk) := by have h0 := hx (k * 13 + 0) _ (hd 0 _ rfl); have h1 := (BW.cell (World.block_lt_of_cell? _ _ h0)).trans h0; simpa only [Nat.add_zero, ← Nat.add_assoc] using h1
      have x1 : wr.cell? ⟨g, off + k * 13 + 1, none⟩ = some (.int .i64 px) := by have h0 := hx (k * 13 + 1) _ (hd 1 _ rfl); have h1 := (BW.cell (World.block_lt_of_cell? _ _ h0)).trans h0; simpa only [Nat.add_zero, ← Nat.add_assoc] using h1
      have x2 : wr.cell? ⟨g, off + k * 13 + 2, none⟩ = some (.string (str nx)) := by have h0 := hx (k * 13 + 2) _ (hd 2 _ rfl); have h1 := (BW.cell (World.block_lt_of_cell? _ _ h0)).trans h0; simpa only [Nat.add_zero, ← Nat.add_assoc] using h1
      have x3 : wr.cell? ⟨g, off + k * 13 + 3, none⟩ = some (.int .i64 qx) := by have h0 := hx (k * 13 + 3) _ (hd 3 _ rfl); have h1 := (BW.cell (World.block_lt_of_cell? _ _ h0)).trans h0; simpa only [Nat.add_zero, ← Nat.add_assoc] using h1
      have x4 : wr.cell? ⟨g, off + k * 13 + 4, none⟩ = some (.slice gx lx cx) := by have h0 := hx (k * 13 + 4) _ (hd 4 _ rfl); have h1 := (BW.cell (World.block_lt_of_cell? _ _ h0)).trans h0; simpa only [Nat.add_zero, ← Nat.add_assoc] using h1
      have x5 : wr.cell? ⟨g, off + k * 13 + 5, none⟩ = some (.int .i64 kx) := by have h0 := hx (k * 13 + 5) _ (hd 5 _ rfl); have h1 := (BW.cell (World.block_lt_of_cell? _ _ h0)).trans h0; simpa only [Nat.add_zero, ← Nat.add_assoc] using h1
      have x6 : wr.cell? ⟨g, off + k * 13 + 6, none⟩ = some (.int .i64 ax) := by have h0 := hx (k * 13 + 6) _ (hd 6 _ rfl); have h1 := (BW.cell (World.block_lt_of_cell? _ _ h0)).trans h0; simpa only [Nat.add_zero, ← Nat.add_assoc] using h1
      have x7 : wr.cell? ⟨g, off + k * 13 + 7, none⟩ = some (.string sx) := by have h0 := hx (k * 13 + 7) _ (hd 7 _ rfl); have h1 := (BW.cell (World.block_lt_of_cell? _ _ h0)).trans h0; simpa only [Nat.add_zero, ← Nat.add_assoc] using h1
      have x8 : wr.cell? ⟨g, off + k * 13 + 8, none⟩ = some (.int .i64 mx) := by have h0 := hx (k * 13 + 8) _ (hd 8 _ rfl); have h1 := (BW.cell (World.block_lt_of_cell? _ _ h0)).trans h0; simpa only [Nat.add_zero, ← Nat.add_assoc] using h1
      have x9 : wr.cell? ⟨g, off + k * 13 + 9, none⟩ = some (.slice gx4 nx4 cx4) := by have h0 := hx (k * 13 + 9) _ (hd 9 _ rfl); have h1 := (BW.cell (World.block_lt_of_cell? _ _ h0)).trans h0; simpa only [Nat.add_zero, ← Nat.add_assoc] using h1
      have x10 : wr.cell? ⟨g, off + k * 13 + 10, none⟩ = some (.slice gx5 nx5 cx5) := by have h0 := hx (k * 13 + 10) _ (hd 10 _ rfl); have h1 := (BW.cell (World.block_lt_of_cell? _ _ h0)).trans h0; simpa only [Nat.add_zero, ← Nat.add_assoc] using h1
      have x11 : wr.cell? ⟨g, off + k * 13 + 11, none⟩ = some (.slice gx6 nx6 cx6) := by have h0 := hx (k * 13 + 11) _ (hd 11 _ rfl); have h1 := (BW.cell (World.block_lt_of_cell? _ _ h0)).trans h0; simpa only [Nat.add_zero, ← Nat.add_assoc] using h1
      have x12 : wr.cell? ⟨g, off + k * 13 + 12, none⟩ = some (.slice gx7 nx7 cx7) := by have h0 := hx (k * 13 + 12) _ (hd 12 _ rfl); have h1 := (BW.cell (World.block_lt_of_cell? _ _ h0)).trans h0; simpa only [Nat.add_zero, ← Nat.add_assoc] using h1
      have y0 : wr.cell? ⟨g', off' + k * 13, none⟩ = some (.int .i64 kk) := by have h0 := hy (k * 13 + 0) _ (hd' 0 _ rfl); have h1 := (BW.cell (World.block_lt_of_cell? _ _ h0)).trans h0; simpa only [Nat.add_zero, ← Nat.add_assoc] using h1
      have y1 : wr.cell? ⟨g', off' + k * 13 + 1, none⟩ = some (.int .i64 py) := by have h0 := hy (k * 13 + 1) _ (hd' 1 _ rfl); have h1 := (BW.cell (World.block_lt_of_cell? _ _ h0)).trans h0; simpa only [Nat.add_zero, ← Nat.add_assoc] using h1
      have y2 : wr.cell? ⟨g', off' + k * 13 + 2, none⟩ = some (.string (str ny)) := by have h0 := hy (k * 13 + 2) _ (hd' 2 _ rfl); have h1 := (BW.cell (World.block_lt_of_cell? _ _ h0)).trans h0; simpa only [Nat.add_zero, ← Nat.add_assoc] using h1
      have y3 : wr.cell? ⟨g', off' + k * 13 + 3, none⟩ = some (.int .i64 qy) := by have h0 := hy (k * 13 + 3) _ (hd' 3 _ rfl); have h1 := (BW.cell (World.block_lt_of_cell? _ _ h0)).trans h0; simpa only [Nat.add_zero, ← Nat.add_assoc] using h1
      have y4 : wr.cell? ⟨g', off' + k * 13 + 4, none⟩ = some (.slice gy ly cy) := by have h0 := hy (k * 13 + 4) _ (hd' 4 _ rfl); have h1 := (BW.cell (World.block_lt_of_cell? _ _ h0)).trans h0; simpa only [Nat.add_zero, ← Nat.add_assoc] using h1
      have y5 : wr.cell? ⟨g', off' + k * 13 + 5, none⟩ = some (.int .i64 ky) := by have h0 := hy (k * 13 + 5) _ (hd' 5 _ rfl); have h1 := (BW.cell (World.block_lt_of_cell? _ _ h0)).trans h0; simpa only [Nat.add_zero, ← Nat.add_assoc] using h1
      have y6 : wr.cell? ⟨g', off' + k * 13 + 6, none⟩ = some (.int .i64 ay) := by have h0 := hy (k * 13 + 6) _ (hd' 6 _ rfl); have h1 := (BW.cell (World.block_lt_of_cell? _ _ h0)).trans h0; simpa only [Nat.add_zero, ← Nat.add_assoc] using h1
      have y7 : wr.cell? ⟨g', off' + k * 13 + 7, none⟩ = some (.string sy) := by have h0 := hy (k * 13 + 7) _ (hd' 7 _ rfl); have h1 := (BW.cell (World.block_lt_of_cell? _ _ h0)).trans h0; simpa only [Nat.add_zero, ← Nat.add_assoc] using h1
      have y8 : wr.cell? ⟨g', off' + k * 13 + 8, none⟩ = some (.int .i64 my) := by have h0 := hy (k * 13 + 8) _ (hd' 8 _ rfl); have h1 := (BW.cell (World.block_lt_of_cell? _ _ h0)).trans h0; simpa only [Nat.add_zero, ← Nat.add_assoc] using h1
      have y9 : wr.cell? ⟨g', off' + k * 13 + 9, none⟩ = some (.slice gy4 ny4 cy4) := by have h0 := hy (k * 13 + 9) _ (hd' 9 _ rfl); have h1 := (BW.cell (World.block_lt_of_cell? _ _ h0)).trans h0; simpa only [Nat.add_zero, ← Nat.add_assoc] using h1
      have y10 : wr.cell? ⟨g', off' + k * 13 + 10, none⟩ = some (.slice gy5 ny5 cy5) := by have h0 := hy (k * 13 + 10) _ (hd' 10 _ rfl); have h1 := (BW.cell (World.block_lt_of_cell? _ _ h0)).trans h0; simpa only [Nat.add_zero, ← Nat.add_assoc] using h1
      have y11 : wr.cell? ⟨g', off' + k * 13 + 11, none⟩ = some (.slice gy6 ny6 cy6) := by have h0 := hy (k * 13 + 11) _ (hd' 11 _ rfl); have h1 := (BW.cell (World.block_lt_of_cell? _ _ h0)).trans h0; simpa only [Nat.add_zero, ← Nat.add_assoc] using h1
      have y12 : wr.cell? ⟨g', off' + k * 13 + 12, none⟩ = some (.slice gy7 ny7 cy7) := by have h0 := hy (k * 13 + 12) _ (hd' 12 _ rfl); have h1 := (BW.cell (World.block_lt_of_cell? _ _ h0)).trans h0; simpa only [Nat.add_zero, ← Nat.add_assoc] using h1
      have hlt' : (k : Int) < n := by omega
      have BE := alloc2_below BW (.cells #[.int .i64 kk, .int .i64 px, .string (str nx), .int .i64 qx, .slice gx lx cx, .int .i64 kx, .int .i64 ax, .string sx, .int .i64 mx, .slice gx4 nx4 cx4, .slice gx5 nx5 cx5, .slice gx6 nx6 cx6, .slice gx7 nx7 cx7] 90) (.cells #[.int .i64 kk, .int .i64 py, .string (str ny), .int .i64 qy, .slice gy ly cy, .int .i64 ky, .int .i64 ay, .string sy, .int .i64 my, .slice gy4 ny4 cy4, .slice gy5 ny5 cy5, .slice gy6 ny6 cy6, .slice gy7 ny7 cy7] 90)
      clear hx hy hd hd' hd0 hd0' IX IY IE IF e1 e2 e3 e4 e5 TX hlx hly hnx hny hmx hmy hkk
      go_wp2
      go_cut [6, 7] from 14 to 81 (fun u v wx => ∃ p q, u = ptr p ∧ v = ptr q ∧ Blk wx p #[.int .i64 kk, .int .i64 px, .string (str nx), .int .i64 qx, .slice gx lx cx, .int .i64 kx, .int .i64 ax, .string sx, .int .i64 mx, .slice gx4 nx4 cx4, .slice gx5 nx5 cx5, .slice gx6 nx6 cx6, .slice gx7 nx7 cx7] 90 ∧ Blk wx q #[.int .i64 kk, .int .i64 py, .string (str ny), .int .i64 qy, .slice gy ly cy, .int .i64 ky, .int .i64 ay, .string sy, .int .i64 my, .slice gy4 ny4 cy4, .slice gy5 ny5 cy5, .slice gy6 ny6 cy6, .slice gy7 ny7 cy7] 90 ∧ Below w.heap.size w wx)
      case first =>
        go_region_held3 (fun w' => w'.cell? ⟨g, off + k * 13, none⟩ = some (.int .i64 kk) ∧ w'.cell? ⟨g, off + k * 13 + 1, none⟩ = some (.int .i64 px) ∧ w'.cell? ⟨g, off + k * 13 + 2, none⟩ = some (.string (str nx)) ∧ w'.cell? ⟨g, off + k * 13 + 3, none⟩ = some (.int .i64 qx) ∧ w'.cell? ⟨g, off + k * 13 + 4, none⟩ = some (.slice gx lx cx) ∧ w'.cell? ⟨g, off + k * 13 + 5, none⟩ = some (.int .i64 kx) ∧ w'.cell? ⟨g, off + k * 13 + 6, none⟩ = some (.int .i64 ax) ∧ w'.cell? ⟨g, off + k * 13 + 7, none⟩ = some (.string sx) ∧ w'.cell? ⟨g, off + k * 13 + 8, none⟩ = some (.int .i64 mx) ∧ w'.cell? ⟨g, off + k * 13 + 9, none⟩ = some (.slice gx4 nx4 cx4) ∧ w'.cell? ⟨g, off + k * 13 + 10, none⟩ = some (.slice gx5 nx5 cx5) ∧ w'.cell? ⟨g, off + k * 13 + 11, none⟩ = some (.slice gx6 nx6 cx6) ∧ w'.cell? ⟨g, off + k * 13 + 12, none⟩ = some (.slice gx7 nx7 cx7) ∧ w'.cell? ⟨g', off' + k * 13, none⟩ = some (.int .i64 kk) ∧ w'.cell? ⟨g', off' + k * 13 + 1, none⟩ = some (.int .i64 py) ∧ w'.cell? ⟨g', off' + k * 13 + 2, none⟩ = some (.string (str ny)) ∧ w'.cell? ⟨g', off' + k * 13 + 3, none⟩ = some (.int .i64 qy) ∧ w'.cell? ⟨g', off' + k * 13 + 4, none⟩ = some (.slice gy ly cy) ∧ w'.cell? ⟨g', off' + k * 13 + 5, none⟩ = some (.int .i64 ky) ∧ w'.cell? ⟨g', off' + k * 13 + 6, none⟩ = some (.int .i64 ay) ∧ w'.cell? ⟨g', off' + k * 13 + 7, none⟩ = some (.string sy) ∧ w'.cell? ⟨g', off' + k * 13 + 8, none⟩ = some (.int .i64 my) ∧ w'.cell? ⟨g', off' + k * 13 + 9, none⟩ = some (.slice gy4 ny4 cy4) ∧ w'.cell? ⟨g', off' + k * 13 + 10, none⟩ = some (.slice gy5 ny5 cy5) ∧ w'.cell? ⟨g', off' + k * 13 + 11, none⟩ = some (.slice gy6 ny6 cy6) ∧ w'.cell? ⟨g', off' + k * 13 + 12, none⟩ = some (.slice gy7 ny7 cy7)) (go_keep) (fail)
        all_goals go_wp2
        all_goals go_meet
        all_goals first
          | exact ⟨_, _, rfl, rfl, (by have := Blk.fresh (wr.alloc (.cells #[.int .i64 kk, .int .i64 py, .string (str ny), .int .i64 qy, .slice gy ly cy, .int .i64 ky, .int .i64 ay, .string sy, .int .i64 my, .slice gy4 ny4 cy4, .slice gy5 ny5 cy5, .slice gy6 ny6 cy6, .slice gy7 ny7 cy7] 90)) #[.int .i64 kk, .int .i64 px, .string (str nx), .int .i64 qx, .slice gx lx cx, .int .i64 kx, .int .i64 ax, .string sx, .int .i64 mx, .slice gx4 nx4 cx4, .slice gx5 nx5 cx5, .slice gx6 nx6 cx6, .slice gx7 nx7 cx7] 90; simpa using this.drew'), ((Blk.fresh wr #[.int .i64 kk, .int .i64 py, .string (str ny), .int .i64 qy, .slice gy ly cy, .int .i64 ky, .int .i64 ay, .string sy, .int .i64 my, .slice gy4 ny4 cy4, .slice gy5 ny5 cy5, .slice gy6 ny6 cy6, .slice gy7 ny7 cy7] 90).alloc _).drew', alloc2_below BW _ _⟩
          | exact ⟨_, _, rfl, rfl, ((Blk.fresh wr #[.int .i64 kk, .int .i64 px, .string (str nx), .int .i64 qx, .slice gx lx cx, .int .i64 kx, .int .i64 ax, .string sx, .int .i64 mx, .slice gx4 nx4 cx4, .slice gx5 nx5 cx5, .slice gx6 nx6 cx6, .slice gx7 nx7 cx7] 90).alloc _).drew', (by have := Blk.fresh (wr.alloc (.cells #[.int .i64 kk, .int .i64 px, .string (str nx), .int .i64 qx, .slice gx lx cx, .int .i64 kx, .int .i64 ax, .string sx, .int .i64 mx, .slice gx4 nx4 cx4, .slice gx5 nx5 cx5, .slice gx6 nx6 cx6, .slice gx7 nx7 cx7] 90)) #[.int .i64 kk, .int .i64 py, .string (str ny), .int .i64 qy, .slice gy ly cy, .int .i64 ky, .int .i64 ay, .string sy, .int .i64 my, .slice gy4 ny4 cy4, .slice gy5 ny5 cy5, .slice gy6 ny6 cy6, .slice gy7 ny7 cy7] 90; simpa using this.drew'), alloc2_below BW _ _⟩
      case rest =>
        obtain ⟨p, q, rfl, rfl, DX, DY, BC⟩ := hcut
        clear x0 y0 x1 y1 x2 y2 x3 y3 x4 y4 x5 y5 x6 y6 x7 y7 x8 y8 x9 y9 x10 y10 x11 y11 x12 y12
        have p0 : wc.cell? ⟨p, 0, none⟩ = some (.int .i64 kk) := DX.cell 0
        have p1 : wc.cell? ⟨p, 1, none⟩ = some (.int .i64 px) := DX.cell 1
        have p2 : wc.cell? ⟨p, 2, none⟩ = some (.string (str nx)) := DX.cell 2
        have p3 : wc.cell? ⟨p, 3, none⟩ = some (.int .i64 qx) := DX.cell 3
        have p4 : wc.cell? ⟨p, 4, none⟩ = some (.slice gx lx cx) := DX.cell 4
        have p5 : wc.cell? ⟨p, 5, none⟩ = some (.int .i64 kx) := DX.cell 5
        have p6 : wc.cell? ⟨p, 6, none⟩ = some (.int .i64 ax) := DX.cell 6
        have p7 : wc.cell? ⟨p, 7, none⟩ = some (.string sx) := DX.cell 7
        have p8 : wc.cell? ⟨p, 8, none⟩ = some (.int .i64 mx) := DX.cell 8
        have p9 : wc.cell? ⟨p, 9, none⟩ = some (.slice gx4 nx4 cx4) := DX.cell 9
        have p10 : wc.cell? ⟨p, 10, none⟩ = some (.slice gx5 nx5 cx5) := DX.cell 10
        have p11 : wc.cell? ⟨p, 11, none⟩ = some (.slice gx6 nx6 cx6) := DX.cell 11
        have p12 : wc.cell? ⟨p, 12, none⟩ = some (.slice gx7 nx7 cx7) := DX.cell 12
        have q0 : wc.cell? ⟨q, 0, none⟩ = some (.int .i64 kk) := DY.cell 0
        have q1 : wc.cell? ⟨q, 1, none⟩ = some (.int .i64 py) := DY.cell 1
        have q2 : wc.cell? ⟨q, 2, none⟩ = some (.string (str ny)) := DY.cell 2
        have q3 : wc.cell? ⟨q, 3, none⟩ = some (.int .i64 qy) := DY.cell 3
        have q4 : wc.cell? ⟨q, 4, none⟩ = some (.slice gy ly cy) := DY.cell 4
        have q5 : wc.cell? ⟨q, 5, none⟩ = some (.int .i64 ky) := DY.cell 5
        have q6 : wc.cell? ⟨q, 6, none⟩ = some (.int .i64 ay) := DY.cell 6
        have q7 : wc.cell? ⟨q, 7, none⟩ = some (.string sy) := DY.cell 7
        have q8 : wc.cell? ⟨q, 8, none⟩ = some (.int .i64 my) := DY.cell 8
        have q9 : wc.cell? ⟨q, 9, none⟩ = some (.slice gy4 ny4 cy4) := DY.cell 9
        have q10 : wc.cell? ⟨q, 10, none⟩ = some (.slice gy5 ny5 cy5) := DY.cell 10
        have q11 : wc.cell? ⟨q, 11, none⟩ = some (.slice gy6 ny6 cy6) := DY.cell 11
        have q12 : wc.cell? ⟨q, 12, none⟩ = some (.slice gy7 ny7 cy7) := DY.cell 12
        have EX := EX wc BC
        have AN : Hid (∀ w7, Below wc.heap.size wc w7 → Blk w7 p #[.int .i64 kk, .int .i64 px, .string (str nx), .int .i64 qx, .slice gx lx cx, .int .i64 kx, .int .i64 ax, .string sx, .int .i64 mx, .slice gx4 nx4 cx4, .slice gx5 nx5 cx5, .slice gx6 nx6 cx6, .slice gx7 nx7 cx7] 90 ∧ Blk w7 q #[.int .i64 kk, .int .i64 py, .string (str ny), .int .i64 qy, .slice gy ly cy, .int .i64 ky, .int .i64 ay, .string sy, .int .i64 my, .slice gy4 ny4 cy4, .slice gy5 ny5 cy5, .slice gy6 ny6 cy6, .slice gy7 ny7 cy7] 90 ∧ Below w.heap.size w w7) := ⟨fun w7 B7 => ⟨DX.kept (row := none) ⟨B7.os, B7.tape, B7.output, B7.size, fun i hi _ => B7.block i hi⟩ (by simp), DY.kept (row := none) ⟨B7.os, B7.tape, B7.output, B7.size, fun i hi _ => B7.block i hi⟩ (by simp), BC.trans (Joins.below_le B7 BC.size)⟩⟩
        clear BE DX DY
        by_cases z1 : kk = 1
        · have TX := HTX.out z1
          obtain rfl := H3.out (.inl z1)
          subst z1
          have nt : ((str nx).toList == (str nx).toList) = true := by simp
          have nt' : ((str nx).toList != (str nx).toList) = false := by simp
          clear HTX H3 H4
          go_wp2_with (first
            | (go_at_call 32; refine EX.mono ?_; rintro e w7 ⟨rfl, B7⟩; obtain ⟨DX7, DY7, BW7⟩ := AN.out w7 B7; have r0 : w7.cell? ⟨p, 0, none⟩ = some (.int .i64 1) := DX7.cell 0; have r1 : w7.cell? ⟨p, 1, none⟩ = some (.int .i64 px) := DX7.cell 1; have r2 : w7.cell? ⟨p, 2, none⟩ = some (.string (str nx)) := DX7.cell 2; have r3 : w7.cell? ⟨p, 3, none⟩ = some (.int .i64 qx) := DX7.cell 3; have r4 : w7.cell? ⟨p, 4, none⟩ = some (.slice gx lx cx) := DX7.cell 4; have t0 : w7.cell? ⟨q, 0, none⟩ = some (.int .i64 1) := DY7.cell 0; have t1 : w7.cell? ⟨q, 1, none⟩ = some (.int .i64 py) := DY7.cell 1; have t2 : w7.cell? ⟨q, 2, none⟩ = some (.string (str nx)) := DY7.cell 2; have t3 : w7.cell? ⟨q, 3, none⟩ = some (.int .i64 qy) := DY7.cell 3; have t4 : w7.cell? ⟨q, 4, none⟩ = some (.slice gy ly cy) := DY7.cell 4; have TX := TX w7 BW7; clear DX7 DY7)
            | (go_at_call 31; refine TX.mono ?_; rintro e w8 ⟨rfl, B8⟩))
          refine ⟨⟨k + 1, by go_num, by omega, BW7.trans (Joins.below_le B8 BW7.size)⟩, ?_⟩
          simp [intOf]
          omega
        · by_cases z2 : kk = 2
          · obtain rfl := H4.out z2
            subst z2
            clear HTX H3 H4
            go_wp2_with (first
              | (go_at_call 32; refine EX.mono ?_; rintro e w7 ⟨rfl, B7⟩; obtain ⟨DX7, DY7, BW7⟩ := AN.out w7 B7; have r0 : w7.cell? ⟨p, 0, none⟩ = some (.int .i64 2) := DX7.cell 0; have r1 : w7.cell? ⟨p, 1, none⟩ = some (.int .i64 px) := DX7.cell 1; have r2 : w7.cell? ⟨p, 2, none⟩ = some (.string (str nx)) := DX7.cell 2; have r3 : w7.cell? ⟨p, 3, none⟩ = some (.int .i64 qx) := DX7.cell 3; have r4 : w7.cell? ⟨p, 4, none⟩ = some (.slice gx lx cx) := DX7.cell 4; have t0 : w7.cell? ⟨q, 0, none⟩ = some (.int .i64 2) := DY7.cell 0; have t1 : w7.cell? ⟨q, 1, none⟩ = some (.int .i64 py) := DY7.cell 1; have t2 : w7.cell? ⟨q, 2, none⟩ = some (.string (str ny)) := DY7.cell 2; have t3 : w7.cell? ⟨q, 3, none⟩ = some (.int .i64 qx) := DY7.cell 3; have t4 : w7.cell? ⟨q, 4, none⟩ = some (.slice gy ly cy) := DY7.cell 4; clear DX7 DY7))
            refine ⟨⟨k + 1, by go_num, by omega, BW7⟩, ?_⟩
            simp [intOf]
            omega
          · by_cases z3 : kk = 3
            · obtain rfl := H3.out (.inr z3)
              subst z3
              have nt : ((str nx).toList == (str nx).toList) = true := by simp
              have nt' : ((str nx).toList != (str nx).toList) = false := by simp
              clear HTX H3 H4
              go_wp2_with (first
                | (go_at_call 32; refine EX.mono ?_; rintro e w7 ⟨rfl, B7⟩; obtain ⟨DX7, DY7, BW7⟩ := AN.out w7 B7; have r0 : w7.cell? ⟨p, 0, none⟩ = some (.int .i64 3) := DX7.cell 0; have r1 : w7.cell? ⟨p, 1, none⟩ = some (.int .i64 px) := DX7.cell 1; have r2 : w7.cell? ⟨p, 2, none⟩ = some (.string (str nx)) := DX7.cell 2; have r3 : w7.cell? ⟨p, 3, none⟩ = some (.int .i64 qx) := DX7.cell 3; have r4 : w7.cell? ⟨p, 4, none⟩ = some (.slice gx lx cx) := DX7.cell 4; have t0 : w7.cell? ⟨q, 0, none⟩ = some (.int .i64 3) := DY7.cell 0; have t1 : w7.cell? ⟨q, 1, none⟩ = some (.int .i64 py) := DY7.cell 1; have t2 : w7.cell? ⟨q, 2, none⟩ = some (.string (str nx)) := DY7.cell 2; have t3 : w7.cell? ⟨q, 3, none⟩ = some (.int .i64 qy) := DY7.cell 3; have t4 : w7.cell? ⟨q, 4, none⟩ = some (.slice gy ly cy) := DY7.cell 4; clear DX7 DY7))
              refine ⟨⟨k + 1, by go_num, by omega, BW7⟩, ?_⟩
              simp [intOf]
              omega
            · have b1 : (kk == 1) = false := by simp [z1]
              have b2 : (kk == 2) = false := by simp [z2]
              have b3 : (kk == 3) = false := by simp [z3]
              have b0 : (kk != kk) = false := by simp
              clear HTX H3 H4
              go_wp2_with (first
                | (go_at_call 32; refine EX.mono ?_; rintro e w7 ⟨rfl, B7⟩; obtain ⟨DX7, DY7, BW7⟩ := AN.out w7 B7; have r0 : w7.cell? ⟨p, 0, none⟩ = some (.int .i64 kk) := DX7.cell 0; have r1 : w7.cell? ⟨p, 1, none⟩ = some (.int .i64 px) := DX7.cell 1; have r2 : w7.cell? ⟨p, 2, none⟩ = some (.string (str nx)) := DX7.cell 2; have r3 : w7.cell? ⟨p, 3, none⟩ = some (.int .i64 qx) := DX7.cell 3; have r4 : w7.cell? ⟨p, 4, none⟩ = some (.slice gx lx cx) := DX7.cell 4; have t0 : w7.cell? ⟨q, 0, none⟩ = some (.int .i64 kk) := DY7.cell 0; have t1 : w7.cell? ⟨q, 1, none⟩ = some (.int .i64 py) := DY7.cell 1; have t2 : w7.cell? ⟨q, 2, none⟩ = some (.string (str ny)) := DY7.cell 2; have t3 : w7.cell? ⟨q, 3, none⟩ = some (.int .i64 qy) := DY7.cell 3; have t4 : w7.cell? ⟨q, 4, none⟩ = some (.slice gy ly cy) := DY7.cell 4; clear DX7 DY7))
              refine ⟨⟨k + 1, by go_num, by omega, BW7⟩, ?_⟩
              simp [intOf]
              omega
    · obtain rfl : k = n := by omega
      go_wp2
      go_ret
      exact ⟨rfl, BW⟩

end Go.Proofs.YtoedeedoecdajaaDoor

/- The document's comparison of programs that are the same. -/
namespace Go.Proofs.YtoedeedoecdajaaDoor
open Go.RowKit
set_option linter.unusedVariables false
set_option linter.unusedSimpArgs false

def AllOK (x : E) : Prop := ∀ y, sameE x y = true → ExpsOK x y
theorem exps_step {k a : Int} {n : List UInt8} {m : Int} {ts : List Atm} {bs : List B} {ks : List E} {al : List A} (HB : ∀ x ∈ bs, AllOK (bodyB x)) (HK : ∀ x ∈ ks, AllOK x) (HA : ∀ x ∈ al, AllOK (bodyA x)) : AllOK (.mk k a n m ts bs ks al) := by
  rintro ⟨k', a', n', m', ts', bs', ks', al'⟩ hs w ca cb IA IB
  rw [hs]
  simp only [isE] at IA IB
  obtain ⟨vt, vb, vk, va, xb, xk, xa, rfl, IT, IBr, IBs, IK, IKs, IAr, IAs⟩ := IA
  obtain ⟨vt', vb', vk', va', xb', xk', xa', rfl, IT', IBr', IBs', IK', IKs', IAr', IAs'⟩ := IB
  simp only [sameE] at hs
  by_cases hk : k = k'
  · subst hk
    rw [if_neg (fun z => z rfl)] at hs
    by_cases h1 : k = 1 ∨ k = 2 ∨ k = 3
    · rw [if_pos h1] at hs
      have q := exps_app (p := a) (m := m) (p' := a') (m' := m') (n := n) (n' := n') h1 w vt vb vk va vt' vb' vk' va' ts ts' IT IT'
      rw [hs] at q
      exact q
    · rw [if_neg h1] at hs
      by_cases h5 : k = 5
      · subst h5
        rw [if_neg (by decide), if_pos rfl] at hs
        simp only [Bool.and_eq_true] at hs
        have q := exps_let (p := a) (m := m) (p' := a') (m' := m') (n := str n) (n' := str n') w vt vb vk va vt' vb' vk' va' true true
          (fun W hW => binds_same W bs bs' vb vb' xb xb' (IBr.keeps (any_keeps hW)) (isBs_keeps (any_keeps hW) _ _ IBs) (IBr'.keeps (any_keeps hW)) (isBs_keeps (any_keeps hW) _ _ IBs') (fun x hx y => HB x hx y) hs.1)
          (fun W hW => by
            have r := kid_any W ks ks' vk vk' xk xk' (IK.keeps (any_keeps hW)) (isEs_keeps (any_keeps hW) _ _ IKs) (IK'.keeps (any_keeps hW)) (isEs_keeps (any_keeps hW) _ _ IKs') (fun x hx y => HK x hx y) hs.2
            rw [hs.2] at r
            exact r)
        exact q
      · by_cases h6 : k = 6
        · subst h6
          rw [if_neg (by decide), if_neg (by decide), if_pos rfl] at hs
          simp only [Bool.and_eq_true] at hs
          have q := exps_case (p := a) (m := m) (p' := a') (m' := m') (n := str n) (n' := str n') w vt vb vk va vt' vb' vk' va' true true
            (fun W hW => by
              have r := kid_any W ks ks' vk vk' xk xk' (IK.keeps (any_keeps hW)) (isEs_keeps (any_keeps hW) _ _ IKs) (IK'.keeps (any_keeps hW)) (isEs_keeps (any_keeps hW) _ _ IKs') (fun x hx y => HK x hx y) hs.1
              rw [hs.1] at r
              exact r)
            (fun W hW => alts_same W al al' va va' xa xa' (IAr.keeps (any_keeps hW)) (isAs_keeps (any_keeps hW) _ _ IAs) (IAr'.keeps (any_keeps hW)) (isAs_keeps (any_keeps hW) _ _ IAs') (fun x hx y => HA x hx y) hs.2)
          exact q
        · have q := exps_other (k := k) (k' := k) (p := a) (m := m) (p' := a') (m' := m') (n := str n) (n' := str n') w vt vb vk va vt' vb' vk' va' (.inr ⟨rfl, fun z => h1 (.inl z), fun z => h1 (.inr (.inl z)), fun z => h1 (.inr (.inr z)), h5, h6⟩)
          rw [if_neg (fun z => z rfl)] at q
          by_cases h4 : k = 4
          · rw [if_pos h4] at q hs
            rw [hs] at q
            exact q
          · rw [if_neg h4] at q
            exact q
  · rw [if_pos hk] at hs
    cases hs
mutual
theorem ex_E : ∀ x : E, AllOK x
  | .mk k a n m ts bs ks al => exps_step (ex_Bs bs) (ex_Es ks) (ex_As al)
theorem ex_B : ∀ x : B, AllOK (bodyB x)
  | .mk n a as' x => ex_E x
theorem ex_A : ∀ x : A, AllOK (bodyA x)
  | .mk k a n m vs x => ex_E x
theorem ex_Bs : ∀ l : List B, ∀ x ∈ l, AllOK (bodyB x)
  | [], x, h => by cases h
  | y :: r, x, h => by
    rcases List.mem_cons.1 h with e | h'
    · rw [e]
      exact ex_B y
    · exact ex_Bs r x h'
theorem ex_Es : ∀ l : List E, ∀ x ∈ l, AllOK x
  | [], x, h => by cases h
  | y :: r, x, h => by
    rcases List.mem_cons.1 h with e | h'
    · rw [e]
      exact ex_E y
    · exact ex_Es r x h'
theorem ex_As : ∀ l : List A, ∀ x ∈ l, AllOK (bodyA x)
  | [], x, h => by cases h
  | y :: r, x, h => by
    rcases List.mem_cons.1 h with e | h'
    · rw [e]
      exact ex_A y
    · exact ex_As r x h'
end
theorem sameDs_pair : ∀ (a b : List D), sameDs a b = true → a.length = b.length ∧ ∀ i (h : i < a.length) (h' : i < b.length), (a[i]'h).name = (b[i]'h').name ∧ (a[i]'h).arity = (b[i]'h').arity
  | [], [], _ => ⟨rfl, fun i h => absurd h (Nat.not_lt_zero _)⟩
  | [], _ :: _, h => by simp [sameDs] at h
  | _ :: _, [], h => by simp [sameDs] at h
  | x :: a, y :: b, h => by
    simp only [sameDs, Bool.and_eq_true, decide_eq_true_eq] at h
    have ih := sameDs_pair a b h.2
    refine ⟨by simp [ih.1], fun i hi hi' => ?_⟩
    cases i with
    | zero => exact h.1
    | succ i => exact ih.2 i (by simpa using hi) (by simpa using hi')
theorem datC_get : ∀ (l : List D) (i : Nat) (h : i < l.length), (datC l)[i * 3]? = some (.string (str (l[i]'h).name)) ∧ (datC l)[i * 3 + 1]? = some (.int .i64 (l[i]'h).arity)
  | [], _, h => absurd h (Nat.not_lt_zero _)
  | a :: l, 0, _ => ⟨rfl, rfl⟩
  | a :: l, i + 1, h => by
    have ih := datC_get l i (by simpa using h)
    have e : datC (a :: l) = [.string (str a.name), .int .i64 a.arity, .int .i64 a.at'] ++ datC l := by simp [datC]
    rw [e, show (i + 1) * 3 = i * 3 + 3 by omega]
    refine ⟨?_, ?_⟩
    · rw [List.getElem?_append_right (by simp)]
      simpa using ih.1
    · rw [List.getElem?_append_right (by simp only [List.length_cons, List.length_nil]; omega)]
      have : i * 3 + 3 + 1 - 3 = i * 3 + 1 := by omega
      simpa [this] using ih.2

set_option maxRecDepth 100000 in
set_option maxHeartbeats 8000000 in
theorem same_any (w : World) (p q : Pg) (vp vq : Value) (P : isPV w anyB p vp) (Q : isPV w anyB q vq) (hs : sameP p q = true) : Calls Tryd.prog 9 #[vp, vq] w fun e w' => e = .returned (.bool true) ∧ Below w.heap.size w w' := by
  unfold sameP at hs
  simp only [Bool.and_eq_true] at hs
  obtain ⟨hlen, hp⟩ := sameDs_pair _ _ hs.1
  obtain ⟨vd, vb, xb, rfl, ID, IB, IBS⟩ := P
  obtain ⟨vd', vb', xb', rfl, ID', IB', IBS'⟩ := Q
  obtain ⟨gd, cd, rfl, _, hn⟩ := row_parts ID
  obtain ⟨gd', cd', rfl, _, _⟩ := row_parts ID'
  obtain ⟨gb, cb, rfl, _, _⟩ := row_parts IB
  obtain ⟨gb', cb', rfl, _, _⟩ := row_parts IB'
  have BS := fun W (hW : Below w.heap.size w W) => binds_same W p.binds q.binds _ _ xb xb' (IB.keeps (any_keeps hW)) (isBs_keeps (any_keeps hW) _ _ IBS) (IB'.keeps (any_keeps hW)) (isBs_keeps (any_keeps hW) _ _ IBS') (fun x hx y => ex_Bs p.binds x hx y) hs.2
  obtain ⟨n, hnn⟩ : ∃ n, p.datas.length = n := ⟨_, rfl⟩
  have hmm : q.datas.length = n := by rw [← hlen, hnn]
  have HA : Hid (p.datas.length = n) := ⟨hnn⟩
  have HB : Hid (q.datas.length = n) := ⟨hmm⟩
  rw [hnn] at ID hn ⊢
  rw [hmm] at ID' ⊢
  have A0 : Hid (IsRow w anyB (datC p.datas) n (.slice gd n cd)) := ⟨ID⟩
  have B0 : Hid (IsRow w anyB (datC q.datas) n (.slice gd' n cd')) := ⟨ID'⟩
  have HPR : Hid (∀ i (h : i < p.datas.length) (h' : i < q.datas.length), (p.datas[i]'h).name = (q.datas[i]'h').name ∧ (p.datas[i]'h).arity = (q.datas[i]'h').arity) := ⟨hp⟩
  obtain ⟨nb, hnb⟩ : ∃ nb, p.binds.length = nb := ⟨_, rfl⟩
  obtain ⟨nb', hnb'⟩ : ∃ nb, q.binds.length = nb := ⟨_, rfl⟩
  rw [hnb, hnb'] at BS ⊢
  clear hlen hp hnn hmm ID ID' IB IB' IBS IBS' hs hnb hnb'
  go_enter Tryd.func9, Tryd.ntmps9
  go_wp2
  have D0 : Blk ((w.alloc (.cells #[.slice gd n cd, .slice gb nb cb] 25)).alloc (.cells #[.slice gd' n cd', .slice gb' nb' cb'] 25)) w.heap.size #[.slice gd n cd, .slice gb nb cb] 25 := (Blk.fresh w _ _).alloc _
  have D1 : Blk ((w.alloc (.cells #[.slice gd n cd, .slice gb nb cb] 25)).alloc (.cells #[.slice gd' n cd', .slice gb' nb' cb'] 25)) (w.heap.size + 1) #[.slice gd' n cd', .slice gb' nb' cb'] 25 := by have := Blk.fresh (w.alloc (.cells #[.slice gd n cd, .slice gb nb cb] 25)) #[.slice gd' n cd', .slice gb' nb' cb'] 25; simpa using this
  have B00 : Below w.heap.size w ((w.alloc (.cells #[.slice gd n cd, .slice gb nb cb] 25)).alloc (.cells #[.slice gd' n cd', .slice gb' nb' cb'] 25)) := two_allocs _ _
  generalize (w.alloc (.cells #[.slice gd n cd, .slice gb nb cb] 25)).alloc (.cells #[.slice gd' n cd', .slice gb' nb' cb'] 25) = w0 at *
  go_loopw [5] (fun c wr => ∃ k : Nat, c = .int .i64 k ∧ k ≤ n ∧ ∃ q, wr = w0.drewN q) (fun c _ => n - (intOf c).toNat)
  case atStart => exact ⟨0, rfl, Nat.zero_le _, 0, rfl⟩
  case round =>
    obtain ⟨k, rfl, hk, qq, rfl⟩ := hrel
    have z0 : w0.cell? ⟨w.heap.size, 0, none⟩ = some (.slice gd n cd) := D0.cell 0
    have z1 : w0.cell? ⟨w.heap.size, 1, none⟩ = some (.slice gb nb cb) := D0.cell 1
    have z2 : w0.cell? ⟨w.heap.size + 1, 0, none⟩ = some (.slice gd' n cd') := D1.cell 0
    have z3 : w0.cell? ⟨w.heap.size + 1, 1, none⟩ = some (.slice gb' nb' cb') := D1.cell 1
    have BW : Below w.heap.size w (w0.drewN qq) := ⟨B00.os, B00.tape, B00.output, B00.size, B00.block⟩
    by_cases hlt : k < n
    · have ka : k < p.datas.length := by rw [HA.out]; exact hlt
      have kb : k < q.datas.length := by rw [HB.out]; exact hlt
      obtain ⟨g, off, rfl, hx⟩ := row_cell A0.out (by omega)
      obtain ⟨g', off', rfl, hy⟩ := row_cell B0.out (by omega)
      obtain ⟨e1, e2⟩ := HPR.out k ka kb
      obtain ⟨hdx0, hdx1⟩ := datC_get p.datas k ka
      obtain ⟨hdy0, hdy1⟩ := datC_get q.datas k kb
      obtain ⟨nx, hnx⟩ : ∃ nx, (q.datas[k]'kb).name = nx := ⟨_, rfl⟩
      obtain ⟨rx, hrx⟩ : ∃ rx, (q.datas[k]'kb).arity = rx := ⟨_, rfl⟩
      rw [e1, hnx] at hdx0
      rw [e2, hrx] at hdx1
      rw [hnx] at hdy0
      rw [hrx] at hdy1
      have x0 : w0.cell? ⟨g, off + k * 3, none⟩ = some (.string (str nx)) := by have h0 := hx (k * 3 + 0) _ hdx0; have h1 := (B00.cell (World.block_lt_of_cell? _ _ h0)).trans h0; simpa only [Nat.add_zero, ← Nat.add_assoc] using h1
      have x1 : w0.cell? ⟨g, off + k * 3 + 1, none⟩ = some (.int .i64 rx) := by have h0 := hx (k * 3 + 1) _ hdx1; have h1 := (B00.cell (World.block_lt_of_cell? _ _ h0)).trans h0; simpa only [Nat.add_zero, ← Nat.add_assoc] using h1
      have y0 : w0.cell? ⟨g', off' + k * 3, none⟩ = some (.string (str nx)) := by have h0 := hy (k * 3 + 0) _ hdy0; have h1 := (B00.cell (World.block_lt_of_cell? _ _ h0)).trans h0; simpa only [Nat.add_zero, ← Nat.add_assoc] using h1
      have y1 : w0.cell? ⟨g', off' + k * 3 + 1, none⟩ = some (.int .i64 rx) := by have h0 := hy (k * 3 + 1) _ hdy1; have h1 := (B00.cell (World.block_lt_of_cell? _ _ h0)).trans h0; simpa only [Nat.add_zero, ← Nat.add_assoc] using h1
      have hlt' : (k : Int) < n := by omega
      have nt : ((str nx).toList == (str nx).toList) = true := by simp
      clear hx hy hdx0 hdx1 hdy0 hdy1 e1 e2 hnx hrx BS
      go_wp2
      go_quiet (fail)
      go_wp2
      refine ⟨⟨k + 1, by go_num, by omega, _, rfl⟩, ?_⟩
      simp [intOf]
      omega
    · obtain rfl : k = n := by omega
      have BS := BS _ BW
      go_wp2_with (go_at_call 19; refine BS.mono ?_; rintro e w7 ⟨rfl, B7⟩)
      go_ret
      exact ⟨rfl, BW.trans (Joins.below_le B7 BW.size)⟩

end Go.Proofs.YtoedeedoecdajaaDoor
