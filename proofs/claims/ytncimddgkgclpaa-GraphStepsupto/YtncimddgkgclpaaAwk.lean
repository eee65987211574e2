/- What must come at any rate. -/
import Derived.Test.YtncimddgkgclpaaMtl
import Derived.Test.YtncimddgkgclpaaGrd
namespace Go.Proofs.Ytncimddgkgclpaa
open Go.RowKit
set_option linter.unusedVariables false
set_option linter.unusedSimpArgs false
set_option maxRecDepth 100000

def gA : Gr := ⟨[1], [⟨2, 0, [5], []⟩, ⟨8, 0, [], [0]⟩]⟩
def gR : Gr := ⟨[0], [⟨2, 0, [5], []⟩]⟩
theorem endA0 : endI gA.nd 0 = 0 := by
  have h : endF gA.nd 0 = some 0 := endF_self (kind_no (by decide) (by decide))
  unfold endI
  rw [if_pos (by decide)]
  show oI (endF gA.nd 0) = 0
  rw [h]; rfl
theorem endA1 : endI gA.nd 1 = 0 := by
  have h1 : Lead gA.nd 1 0 := Lead.ind (by decide) (by decide) (by decide)
  have h : endF gA.nd 1 = some 0 := (endF_lead h1).trans (endF_self (kind_no (by decide) (by decide)))
  unfold endI
  rw [if_pos (by decide)]
  show oI (endF gA.nd 1) = 0
  rw [h]; rfl
theorem trA : trG (endI gA.nd) gA = gR := by
  have hr : gA.rs.map (endI gA.nd) = [0] := by show [endI gA.nd 1] = [0]; rw [endA1]
  have hk : (trD (endI gA.nd) gA.nd 0).ks = [] := rfl
  have hv : trV (endI gA.nd) gA = [0] := by
    unfold trV
    rw [hr]
    show vis (fun n => (trD (endI gA.nd) gA.nd n).ks) 3 [0] [] = [0]
    rw [vis, if_pos (by decide)]
    show vis (fun n => (trD (endI gA.nd) gA.nd n).ks) 3 [] (vis (fun n => (trD (endI gA.nd) gA.nd n).ks) 2 (trD (endI gA.nd) gA.nd 0).ks [0]) = [0]
    rw [hk, vis_nil, vis_nil]
  unfold trG
  rw [hr, hv]
  rfl
theorem nd0_far {g : List Nd} {n : Nat} (h : g.length ≤ n) : nd0 g n = ⟨0, 0, [], []⟩ := by simp [nd0, h]
theorem smA : Sm gA := ⟨by decide, by decide, fun n => by
  match n with
  | 0 => decide
  | 1 => decide
  | n + 2 => rw [nd0_far (by simp [gA])]; decide, fun n => by
  match n with
  | 0 => decide
  | 1 => decide
  | n + 2 => rw [nd0_far (by simp [gA])]; decide⟩
theorem okA : ∀ x, x < gA.nd.length → OkN (nd0 gA.nd x) := fun x hx => by
  match x, hx with
  | 0, _ => intro j hj; have : j = 5 := by simpa [nd0, gA] using hj
            subst this; decide
  | 1, _ => intro j hj; simp [nd0, gA] at hj
set_option maxHeartbeats 4000000 in
theorem awake_any (w : World) : Calls Try.prog 9 #[] w fun e w' => e = .returned (.bool true) ∧ Below w.heap.size w w' := by
  obtain ⟨W, hW⟩ : ∃ W, W = ((((w.alloc (.cells #[.int .i64 1] 3)).alloc (.cells #[.int .u64 5] 40)).alloc (.cells #[.int .i64 0] 3)).alloc (.cells #[.int .i64 2, .int .i64 0, .slice (some ⟨w.heap.size + 1, 0, none⟩) 1 1, .slice none 0 0, .int .i64 8, .int .i64 0, .slice none 0 0, .slice (some ⟨w.heap.size + 1 + 1, 0, none⟩) 1 1] 34)).alloc (.cells #[.slice (some ⟨w.heap.size, 0, none⟩) 1 1, .slice (some ⟨w.heap.size + 1 + 1 + 1, 0, none⟩) 2 2] 25) := ⟨_, rfl⟩
  have B : Below w.heap.size w W := by rw [hW]; go_grown
  have a0 : W.cell? ⟨w.heap.size, 0, none⟩ = some (.int .i64 1) := by rw [hW]; simp [go_sem]
  have a1 : W.cell? ⟨w.heap.size + 1, 0, none⟩ = some (.int .u64 5) := by rw [hW]; simp [go_sem]
  have a2 : W.cell? ⟨w.heap.size + 1 + 1, 0, none⟩ = some (.int .i64 0) := by rw [hW]; simp [go_sem]
  have n0 : W.cell? ⟨w.heap.size + 1 + 1 + 1, 0, none⟩ = some (.int .i64 2) := by rw [hW]; simp [go_sem]
  have n1 : W.cell? ⟨w.heap.size + 1 + 1 + 1, 1, none⟩ = some (.int .i64 0) := by rw [hW]; simp [go_sem]
  have n2 : W.cell? ⟨w.heap.size + 1 + 1 + 1, 2, none⟩ = some (.slice (some ⟨w.heap.size + 1, 0, none⟩) 1 1) := by rw [hW]; simp [go_sem]
  have n3 : W.cell? ⟨w.heap.size + 1 + 1 + 1, 3, none⟩ = some (.slice none 0 0) := by rw [hW]; simp [go_sem]
  have n4 : W.cell? ⟨w.heap.size + 1 + 1 + 1, 4, none⟩ = some (.int .i64 8) := by rw [hW]; simp [go_sem]
  have n5 : W.cell? ⟨w.heap.size + 1 + 1 + 1, 5, none⟩ = some (.int .i64 0) := by rw [hW]; simp [go_sem]
  have n6 : W.cell? ⟨w.heap.size + 1 + 1 + 1, 6, none⟩ = some (.slice none 0 0) := by rw [hW]; simp [go_sem]
  have n7 : W.cell? ⟨w.heap.size + 1 + 1 + 1, 7, none⟩ = some (.slice (some ⟨w.heap.size + 1 + 1, 0, none⟩) 1 1) := by rw [hW]; simp [go_sem]
  have g0 : W.cell? ⟨w.heap.size + 1 + 1 + 1 + 1, 0, none⟩ = some (.slice (some ⟨w.heap.size, 0, none⟩) 1 1) := by rw [hW]; simp [go_sem]
  have g1 : W.cell? ⟨w.heap.size + 1 + 1 + 1 + 1, 1, none⟩ = some (.slice (some ⟨w.heap.size + 1 + 1 + 1, 0, none⟩) 2 2) := by rw [hW]; simp [go_sem]
  have G : Gv W gA (some ⟨w.heap.size, 0, none⟩) 1 (some ⟨w.heap.size + 1 + 1 + 1, 0, none⟩) 2 := by
    refine ⟨⟨Nat.le_refl _, by decide, fun _ => ⟨_, 0, rfl, fun i hi => ?_⟩⟩, ⟨_, 2, rfl, ⟨Nat.le_refl _, by decide⟩, fun _ => ⟨_, 0, rfl, fun i x hx => ?_⟩⟩⟩
    · have : i = 0 := by have : i < 1 := hi; omega
      subst this; exact a0
    · match i, hx with
      | 0, hx =>
        cases hx
        refine ⟨_, ⟨some ⟨w.heap.size + 1, 0, none⟩, 1, none, 0, rfl, ⟨Nat.le_refl _, by decide, fun _ => ⟨_, 0, rfl, fun i hi => ?_⟩⟩, ⟨Nat.le_refl _, by decide, fun h => absurd h (Nat.lt_irrefl _)⟩⟩, fun j u hj => ?_⟩
        · have : i = 0 := by have : i < 1 := hi; omega
          subst this; exact a1
        · match j, hj with
          | 0, hj => cases hj; exact n0
          | 1, hj => cases hj; exact n1
          | 2, hj => cases hj; exact n2
          | 3, hj => cases hj; exact n3
          | j + 4, hj => simp at hj
      | 1, hx =>
        cases hx
        refine ⟨_, ⟨none, 0, some ⟨w.heap.size + 1 + 1, 0, none⟩, 1, rfl, ⟨Nat.le_refl _, by decide, fun h => absurd h (Nat.lt_irrefl _)⟩, ⟨Nat.le_refl _, by decide, fun _ => ⟨_, 0, rfl, fun i hi => ?_⟩⟩⟩, fun j u hj => ?_⟩
        · have : i = 0 := by have : i < 1 := hi; omega
          subst this; exact a2
        · match j, hj with
          | 0, hj => cases hj; exact n4
          | 1, hj => cases hj; exact n5
          | 2, hj => cases hj; exact n6
          | 3, hj => cases hj; exact n7
          | j + 4, hj => simp at hj
      | i + 2, hx => simp [gA] at hx
  have CS := short13 W gA _ _ 1 2 G smA okA
  rw [trA] at CS
  have CW := fun (W' : World) (b : Below W.heap.size W W') => words16 gA _ _ 1 2 W' (G.later b)
  have hws : szI (wsN gA.nd gA.nd.length) = 4 := by
    have : wsN gA.nd gA.nd.length = 4 := by decide
    rw [this]
    unfold szI wrap64
    omega
  rw [hws] at CW
  have HCS : Hid (Calls Try.prog 13 #[.agg #[.slice (some ⟨w.heap.size, 0, none⟩) 1 1, .slice (some ⟨w.heap.size + 1 + 1 + 1, 0, none⟩) 2 2]] W fun e w' => ∃ o1 c1 a1 ca1, e = .returned (.agg #[.slice o1 1 c1, .slice a1 1 ca1]) ∧ Gb w' gR o1 c1 a1 ca1 ∧ Below W.heap.size W w') := ⟨CS⟩
  have HCW : Hid (∀ W', Below W.heap.size W W' → Calls Try.prog 16 #[.agg #[.slice (some ⟨w.heap.size, 0, none⟩) 1 1, .slice (some ⟨w.heap.size + 1 + 1 + 1, 0, none⟩) 2 2]] W' fun e w' => e = .returned (.int .i64 4) ∧ Below W'.heap.size W' w') := ⟨CW⟩
  have HB := Hid.mk B
  clear a0 a1 a2 n0 n1 n2 n3 n4 n5 n6 n7 G CS CW hws B
  have HG := Hid.mk (fun (W' : World) (b : Below W.heap.size W W') => And.intro (cellLater b g0) (cellLater b g1))
  subst hW
  clear g0 g1
  go_enter Try.func9, Try.ntmps9
  go_wp2_with (first
    | (go_at_call 13; refine HCS.out.mono ?_; clear HCS; rintro e w5 ⟨o1, c1, a1, ca1, rfl, G5, B5⟩; have HG5 := Hid.mk G5; have HB5 := Hid.mk B5; obtain ⟨g1, f1, e1, q1⟩ := G5.gv.rs.get 0 (by decide); obtain ⟨g2, f2, cap2, cc, e2, _, _, pc, hx⟩ := G5.gv.nd.get 0 (by decide); simp only [Value.slice.injEq] at e2; obtain ⟨rfl, _, rfl⟩ := e2; subst e1; obtain ⟨p1, k1, p2, k2, rfl, _, _⟩ := pc; have x0 : w5.cell? ⟨g2, f2, none⟩ = some (.int .i64 2) := hx 0 _ rfl; have q1' : w5.cell? ⟨g1, f1, none⟩ = some (.int .i64 0) := q1; have BA := Joins.below_alloc1 w5 (.cells #[.slice (some ⟨g1, f1, none⟩) 1 c1, .slice (some ⟨g2, f2, none⟩) 1 ca1] 25); have y0 := cellLater BA x0; have y1 := cellLater BA q1'; obtain ⟨s0, s1⟩ := HG.out _ (B5.trans (BA.mono B5.size)); have HBA := Hid.mk BA; have HC4 := HCW.out; clear G5 B5 hx q1)
    | (go_at_call 16; refine (HC4 _ (HB5.out.trans (HBA.out.mono HB5.out.size))).mono ?_; rintro e w6 ⟨rfl, B6⟩))
  go_ret
  exact ⟨rfl, HB.out.trans ((HB5.out.mono HB.out.size).trans ((HBA.out.mono (Nat.le_trans HB.out.size HB5.out.size)).trans (B6.mono (Nat.le_trans HB.out.size (Nat.le_trans HB5.out.size HBA.out.size)))))⟩
end Go.Proofs.Ytncimddgkgclpaa
