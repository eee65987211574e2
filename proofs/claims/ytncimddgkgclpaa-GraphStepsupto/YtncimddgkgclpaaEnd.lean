/- The document's end. -/
import Derived.Test.YtncimddgkgclpaaLea
namespace Go.Proofs.Ytncimddgkgclpaa
open Go.RowKit
set_option linter.unusedVariables false
set_option linter.unusedSimpArgs false
set_option maxRecDepth 100000

/-- going on so many times, as the document tells it -/
def rdI (g : List Nd) : Nat → Int → Int
  | 0, _ => -2
  | t + 1, n => if n < 0 then n else if ldI g n.toNat = -2 then -2 else if ldI g n.toNat < 0 then n else rdI g t (ldI g n.toNat)
theorem geI_lt {m : Nat} (hm : 0 < m) (x : Int) : geI m x < m := by unfold geI; split <;> omega
theorem ldI_lt {g : List Nd} {n : Nat} (hn : n < g.length) : ldI g n < g.length := by
  have hp : 0 < g.length := by omega
  unfold ldI
  split
  · omega
  · split
    · exact geI_lt hp _
    · split
      · split
        · omega
        · split
          · exact geI_lt hp _
          · omega
      · omega
theorem rdI_go {g : List Nd} (t k : Nat) (h : 0 ≤ ldI g k) : rdI g (t + 1) k = rdI g t (ldI g k) := by
  conv => lhs; unfold rdI
  rw [if_neg (by omega), show ((k : Int)).toNat = k by omega, if_neg (by omega), if_neg (by omega)]
set_option maxHeartbeats 4000000 in
theorem end28 (g : Gr) (n : Int) (o a : Option Addr) (cr ca : Nat) (w : World) (G : Gv w g o cr a ca) (hn : n < g.nd.length) (hm : g.nd.length ≤ 1000) (ok : ∀ n, n < g.nd.length → OkD (nd0 g.nd n)) :
    Calls Try.prog 28 #[gv g o cr a ca, .int .i64 n] w fun e w' => e = .returned (.int .i64 (rdI g.nd (g.nd.length + 1) n)) ∧ Below w.heap.size w w' := by
  have CL := fun (W : World) (b : Below w.heap.size w W) (k : Nat) (hk : k < g.nd.length) => leads19 g k o a cr ca W (G.later b) hk (ok k hk)
  have HLT := Hid.mk (fun k hk => ldI_lt (g := g.nd) (n := k) hk)
  have hn0 := hn
  generalize hR : rdI g.nd = R at *
  have HR1 : Hid (∀ n, R 0 n = -2) := ⟨fun n => by rw [← hR]; rfl⟩
  have HR2 : Hid (∀ t n, n < 0 → R (t + 1) n = n) := ⟨fun t n h => by rw [← hR]; exact if_pos h⟩
  have HR3 : Hid (∀ t (k : Nat), ldI g.nd k = -2 → R (t + 1) k = -2) := ⟨fun t k h => by rw [← hR]; unfold rdI; rw [if_neg (by omega), show ((k : Int)).toNat = k by omega, if_pos h]⟩
  have HR4 : Hid (∀ t (k : Nat), ldI g.nd k ≠ -2 → ldI g.nd k < 0 → R (t + 1) k = k) := ⟨fun t k h h2 => by rw [← hR]; unfold rdI; rw [if_neg (by omega), show ((k : Int)).toNat = k by omega, if_neg h, if_pos h2]⟩
  have HR5 : Hid (∀ t (k : Nat), 0 ≤ ldI g.nd k → R (t + 1) k = R t (ldI g.nd k)) := ⟨fun t k h => by rw [← hR]; exact rdI_go t k h⟩
  unfold gv at *
  clear hR G ok hn0
  generalize ldI g.nd = L at *
  generalize g.rs.length = n1 at *
  generalize g.nd.length = m at *
  have HCL := Hid.mk CL
  have HN := Hid.mk hn
  have B0 : Below w.heap.size w (w.alloc (.cells #[.slice o n1 cr, .slice a m ca] 25)) := by go_grown
  have x0 : (w.alloc (.cells #[.slice o n1 cr, .slice a m ca] 25)).cell? ⟨w.heap.size, 0, none⟩ = some (.slice o n1 cr) := by simp [go_sem]
  have x1 : (w.alloc (.cells #[.slice o n1 cr, .slice a m ca] 25)).cell? ⟨w.heap.size, 1, none⟩ = some (.slice a m ca) := by simp [go_sem]
  have HX := Hid.mk (fun (W' : World) (b : Below (w.alloc (.cells #[.slice o n1 cr, .slice a m ca] 25)).heap.size (w.alloc (.cells #[.slice o n1 cr, .slice a m ca] 25)) W') => And.intro (cellLater b x0) (cellLater b x1))
  have HB0 := Hid.mk B0
  clear B0 x0 x1 CL hn
  obtain ⟨N0, hN0⟩ : ∃ N0, N0 = n := ⟨_, rfl⟩
  rw [← hN0] at HN ⊢
  clear hN0
  go_enter Try.func28, Try.ntmps28
  go_wp2
  generalize w.alloc (.cells #[.slice o n1 cr, .slice a m ca] 25) = W at *
  go_loopw [1, 5, 6] (fun nv tv _ wr => ∃ (x : Int) (t : Nat), nv = .int .i64 x ∧ tv = .int .i64 t ∧ t ≤ m + 1 ∧ x < m ∧ Hid (R (m + 1) N0 = R (m + 1 - t) x) ∧ Hid (Below W.heap.size W wr)) (fun _ tv _ _ => m + 1 - (intOf tv).toNat)
  case atStart => exact ⟨N0, 0, rfl, rfl, by omega, HN.out, ⟨rfl⟩, ⟨Below.refl _ _⟩⟩
  case round =>
    obtain ⟨x, t, rfl, rfl, ht, hx, HR, BB⟩ := hrel
    obtain ⟨c0, c1⟩ := HX.out _ BB.out
    by_cases hlt : t ≤ m
    case neg =>
      have hlt' : ¬ ((t : Int) ≤ m) := by omega
      have e : Hid (R (m + 1) N0 = -2) := ⟨by rw [HR.out, show m + 1 - t = 0 by omega]; exact HR1.out _⟩
      go_wp2
      go_ret
      exact ⟨retInt e.out.symm, belowOn HB0.out BB.out⟩
    case pos =>
    have hlt' : (t : Int) ≤ m := by omega
    by_cases hn : x < 0
    case pos =>
      have e : Hid (R (m + 1) N0 = x) := ⟨by rw [HR.out, show m + 1 - t = (m - t) + 1 by omega]; exact HR2.out _ _ hn⟩
      go_wp2
      go_ret
      exact ⟨retInt e.out.symm, belowOn HB0.out BB.out⟩
    case neg =>
    obtain ⟨k, rfl⟩ : ∃ k : Nat, x = k := ⟨x.toNat, by omega⟩
    have CK := HCL.out _ (belowOn HB0.out BB.out) k (by omega)
    have hlk := HLT.out k (by omega)
    have HE : Hid ((L k = -2 → R (m + 1) N0 = -2) ∧ (L k ≠ -2 → L k < 0 → R (m + 1) N0 = k) ∧ (0 ≤ L k → R (m + 1) N0 = R (m + 1 - (t + 1)) (L k))) := ⟨by
      rw [HR.out, show m + 1 - t = (m - t) + 1 by omega, show m + 1 - (t + 1) = m - t by omega]
      exact ⟨HR3.out _ _, HR4.out _ _, HR5.out _ _⟩⟩
    generalize L k = y at *
    by_cases e1 : y = -2
    · subst e1
      go_wp2_with (go_at_call 19; refine CK.mono ?_; clear CK; rintro e w1 ⟨rfl, B1⟩)
      go_ret
      exact ⟨retInt (HE.out.1 trivial).symm, belowOn HB0.out (belowOn BB.out B1)⟩
    · have n1 : (y == -2) = false := by simpa using e1
      by_cases e2 : y < 0
      · go_wp2_with (go_at_call 19; refine CK.mono ?_; clear CK; rintro e w1 ⟨rfl, B1⟩)
        go_ret
        exact ⟨retInt (HE.out.2.1 e1 e2).symm, belowOn HB0.out (belowOn BB.out B1)⟩
      · go_wp2_with (go_at_call 19; refine CK.mono ?_; clear CK; rintro e w1 ⟨rfl, B1⟩)
        go_roundw
        case rel => exact ⟨y, t + 1, rfl, by go_num, by omega, hlk, ⟨HE.out.2.2 (by omega)⟩, ⟨belowOn BB.out B1⟩⟩
        case measure => simp [intOf]; omega
end Go.Proofs.Ytncimddgkgclpaa
