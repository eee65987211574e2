/- The document's Same, of a frame with itself. -/
import Derived.Test.YtglimbpnekephaaDoorStl
namespace Go.Proofs.YtglimbpnekephaaDoor
open Go.RowKit
set_option linter.unusedVariables false
set_option linter.unusedSimpArgs false

set_option maxRecDepth 100000 in
set_option maxHeartbeats 2000000 in
theorem same_any (f : Fr) (o1 o2 : Option Addr) (c1 c2 : Nat) (w : World) (P1 : PS w o1 c1 f.ps) (P2 : PS w o2 c2 f.ps) :
    Calls Tryd.prog 20 #[fv f o1 c1, fv f o2 c2] w fun e w' => e = .returned (.bool true) ∧ Below w.heap.size w w' := by
  unfold fv
  obtain ⟨fk, fa, fb, ps⟩ := f
  dsimp only at *
  obtain ⟨n, hn⟩ : ∃ n, ps.length = n := ⟨_, rfl⟩
  have B0 : Below w.heap.size w ((w.alloc (Obj.cells #[.int .i64 fk, .int .i64 fa, .int .i64 fb, .slice o1 n c1] 36)).alloc (Obj.cells #[.int .i64 fk, .int .i64 fa, .int .i64 fb, .slice o2 n c2] 36)) := by go_grown
  have H1 := Hid.mk (P1.later B0)
  have H2 := Hid.mk (P2.later B0)
  have HB0 := Hid.mk B0
  have F1 : FrAt ((w.alloc (Obj.cells #[.int .i64 fk, .int .i64 fa, .int .i64 fb, .slice o1 n c1] 36)).alloc (Obj.cells #[.int .i64 fk, .int .i64 fa, .int .i64 fb, .slice o2 n c2] 36)) w.heap.size fk fa fb (.slice o1 n c1) := (FrAt.fresh w fk fa fb (.slice o1 n c1)).later (by go_grown)
  have F2 : FrAt ((w.alloc (Obj.cells #[.int .i64 fk, .int .i64 fa, .int .i64 fb, .slice o1 n c1] 36)).alloc (Obj.cells #[.int .i64 fk, .int .i64 fa, .int .i64 fb, .slice o2 n c2] 36)) (w.heap.size + 1) fk fa fb (.slice o2 n c2) := by have := FrAt.fresh (w.alloc (Obj.cells #[.int .i64 fk, .int .i64 fa, .int .i64 fb, .slice o1 n c1] 36)) fk fa fb (.slice o2 n c2); simpa using this
  have hc1 : n ≤ c1 := hn ▸ P1.cap
  have hc2 : n ≤ c2 := hn ▸ P2.cap
  have hc3 : n ≤ 9223372036854775807 := hn ▸ P1.len
  have HN := Hid.mk hn
  rw [hn]
  have HF1 := Hid.mk F1
  have HF2 := Hid.mk F2
  clear hn P1 P2 B0 F1 F2
  have e1 : (fk != fk) = false := by simp
  have e2 : (fa != fa) = false := by simp
  have e3 : (fb != fb) = false := by simp
  have e4 : ((n : Int) != n) = false := by simp
  go_enter Tryd.func20, Tryd.ntmps20
  go_wp2
  generalize ((w.alloc (Obj.cells #[.int .i64 fk, .int .i64 fa, .int .i64 fb, .slice o1 n c1] 36)).alloc (Obj.cells #[.int .i64 fk, .int .i64 fa, .int .i64 fb, .slice o2 n c2] 36)) = W at *
  go_loopw [5] (fun cv wr => ∃ i : Nat, cv = .int .i64 i ∧ i ≤ n ∧ Hid (Below W.heap.size W wr)) (fun cv _ => n - (intOf cv).toNat)
  case atStart => exact ⟨0, rfl, Nat.zero_le _, ⟨Below.refl _ _⟩⟩
  case round =>
    obtain ⟨i, rfl, hi, BB⟩ := hrel
    obtain ⟨x0, x1, x2, x3⟩ := HF1.out.later BB.out
    obtain ⟨y0, y1, y2, y3⟩ := HF2.out.later BB.out
    by_cases hlt : i < n
    · have kl : i < ps.length := by rw [HN.out]; exact hlt
      obtain ⟨g1, f1, rfl, cx⟩ := (H1.out.later BB.out).get i kl
      obtain ⟨g2, f2, rfl, cy⟩ := (H2.out.later BB.out).get i kl
      generalize ps[i]'kl = m at *
      have hlt' : (i : Int) < n := by omega
      have em : (m != m) = false := by simp
      go_wp2
      go_quiet (fail)
      go_wp2
      exact ⟨⟨i + 1, by go_num, by omega, ⟨below_drewN BB.out _⟩⟩, by simp [intOf]; omega⟩
    · obtain rfl : i = n := by omega
      go_wp2
      go_ret
      exact ⟨rfl, belowOn HB0.out BB.out⟩
end Go.Proofs.YtglimbpnekephaaDoor
