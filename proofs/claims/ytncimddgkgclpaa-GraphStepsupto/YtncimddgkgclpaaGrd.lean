/- Words, of the program and of the document. -/
import Derived.Test.YtncimddgkgclpaaGrc
namespace Go.Proofs.Ytncimddgkgclpaa
open Go.RowKit
set_option linter.unusedVariables false
set_option linter.unusedSimpArgs false
set_option maxRecDepth 100000

def wsN : List Nd → Nat → Nat
  | _, 0 => 0
  | [], _ + 1 => 0
  | x :: l, i + 1 => 1 + x.ks.length + x.ns.length + wsN l i
theorem wsN_step : ∀ (l : List Nd) (i : Nat) (h : i < l.length), wsN l (i + 1) = wsN l i + (1 + l[i].ks.length + l[i].ns.length)
  | [], i, h => absurd h (Nat.not_lt_zero _)
  | x :: l, 0, h => by
    have : wsN l 0 = 0 := by cases l <;> rfl
    simp [wsN, this]
  | x :: l, i + 1, h => by
    have := wsN_step l i (by simpa using h)
    simp only [wsN, List.getElem_cons_succ] at this ⊢
    omega
def szI (n : Nat) : Int := wrap64 n
theorem sz_a (s k n : Nat) : wrap64 (szI s + wrap64 (wrap64 (1 + (k : Int)) + n)) = szI (s + (1 + k + n)) := by
  unfold szI
  unfold wrap64
  omega
theorem sz_b (s k n : Nat) : wrap64 (wrap64 (wrap64 (szI s + 1) + (k : Int)) + n) = szI (s + (1 + k + n)) := by
  unfold szI
  unfold wrap64
  omega
theorem wsN_0 (l : List Nd) : szI (wsN l 0) = 0 := by
  have : wsN l 0 = 0 := by cases l <;> rfl
  rw [this]
  unfold szI wrap64; omega
set_option maxHeartbeats 4000000 in
theorem words16 (g : Gr) (o1 a1 : Option Addr) (c1 d1 : Nat) (w : World) (G : Gv w g o1 c1 a1 d1) :
    Calls Try.prog 16 #[gv g o1 c1 a1 d1] w fun e w' => e = .returned (.int .i64 (szI (wsN g.nd g.nd.length))) ∧ Below w.heap.size w w' := by
  unfold gv
  obtain ⟨grs, gnd⟩ := g
  obtain ⟨G1, G2⟩ := G
  dsimp only at *
  have HG := Hid.mk G2
  obtain ⟨_, _, q1, q2, _⟩ := G2
  simp only [Value.slice.injEq] at q1
  obtain ⟨rfl, _, rfl⟩ := q1
  have hl2 := q2.2
  unfold maxLen at hl2
  obtain ⟨n1, e1⟩ : ∃ n, grs.length = n := ⟨_, rfl⟩
  obtain ⟨n2, e2⟩ : ∃ n, gnd.length = n := ⟨_, rfl⟩
  have HN := Hid.mk e2
  rw [e1, e2]
  rw [e2] at hl2
  clear G1 q2 e1 e2
  have B0 : Below w.heap.size w (w.alloc (.cells #[.slice o1 n1 c1, .slice a1 n2 d1] 25)) := by go_grown
  have HB0 := Hid.mk B0
  clear B0
  go_enter Try.func16, Try.ntmps16
  go_wp2
  generalize w.alloc (.cells #[.slice o1 n1 c1, .slice a1 n2 d1] 25) = W at *
  go_loopw [3, 9] (fun c3 c9 wr => ∃ i : Nat, c9 = .int .i64 i ∧ c3 = .int .i64 (szI (wsN gnd i)) ∧ i ≤ n2 ∧ Hid (Below w.heap.size w wr)) (fun _ c9 _ => n2 - (intOf c9).toNat)
  case atStart => exact ⟨0, rfl, by rw [wsN_0], Nat.zero_le _, HB0⟩
  case round =>
    obtain ⟨i, rfl, rfl, hi, BB⟩ := hrel
    by_cases hlt : i < n2
    · have hlt' : (i : Int) < n2 := by omega
      have kl : i < gnd.length := by rw [HN.out]; exact hlt
      obtain ⟨g1, f1, _, x, ex, _, _, px, hx⟩ := (Nds.later HG.out BB.out).get i kl
      simp only [Value.slice.injEq] at ex
      obtain ⟨rfl, _, rfl⟩ := ex
      have HE : Hid (wsN gnd (i + 1) = wsN gnd i + (1 + gnd[i].ks.length + gnd[i].ns.length)) := ⟨wsN_step gnd i kl⟩
      generalize gnd[i] = X at px HE
      obtain ⟨xk, xi, xns, xks⟩ := X
      obtain ⟨p1, y1, p2, y2, rfl, A1, A2⟩ := px
      dsimp only at hx HE
      obtain ⟨n3, h3⟩ : ∃ n, xns.length = n := ⟨_, rfl⟩
      obtain ⟨n4, h4⟩ : ∃ n, xks.length = n := ⟨_, rfl⟩
      rw [h3, h4] at hx HE
      clear h3 h4 A1 A2
      have a0 : wr.cell? ⟨g1, f1 + i * 4, none⟩ = some (.int .i64 xk) := hx 0 _ rfl
      have a1 : wr.cell? ⟨g1, f1 + i * 4 + 1, none⟩ = some (.int .i64 xi) := hx 1 _ rfl
      have a2 : wr.cell? ⟨g1, f1 + i * 4 + 2, none⟩ = some (.slice p1 n3 y1) := hx 2 _ rfl
      have a3 : wr.cell? ⟨g1, f1 + i * 4 + 3, none⟩ = some (.slice p2 n4 y2) := hx 3 _ rfl
      clear hx
      have HS : Hid (wrap64 (szI (wsN gnd i) + wrap64 (wrap64 (1 + (n4 : Int)) + n3)) = szI (wsN gnd (i + 1))) := ⟨by rw [HE.out]; exact sz_a _ _ _⟩
      go_wp2
      go_roundw
      case rel => exact ⟨i + 1, by go_num, congrArg (Value.int IntKind.i64) HS.out, by omega, ⟨belowOn BB.out (by go_grown)⟩⟩
      case measure => simp [intOf]; omega
    · obtain rfl : i = n2 := by omega
      go_wp2
      go_ret
      exact ⟨rfl, BB.out⟩
set_option maxHeartbeats 4000000 in
theorem words17 (g : Gr) (o1 a1 : Option Addr) (c1 d1 : Nat) (w : World) (G : Gv w g o1 c1 a1 d1) :
    Calls Try.prog 17 #[gv g o1 c1 a1 d1] w fun e w' => e = .returned (.int .i64 (szI (wsN g.nd g.nd.length))) ∧ Below w.heap.size w w' := by
  unfold gv
  obtain ⟨grs, gnd⟩ := g
  obtain ⟨G1, G2⟩ := G
  dsimp only at *
  have HG := Hid.mk G2
  obtain ⟨_, _, q1, q2, _⟩ := G2
  simp only [Value.slice.injEq] at q1
  obtain ⟨rfl, _, rfl⟩ := q1
  have hl2 := q2.2
  unfold maxLen at hl2
  obtain ⟨n1, e1⟩ : ∃ n, grs.length = n := ⟨_, rfl⟩
  obtain ⟨n2, e2⟩ : ∃ n, gnd.length = n := ⟨_, rfl⟩
  have HN := Hid.mk e2
  rw [e1, e2]
  rw [e2] at hl2
  clear G1 q2 e1 e2
  have B0 : Below w.heap.size w (w.alloc (.cells #[.slice o1 n1 c1, .slice a1 n2 d1] 25)) := by go_grown
  have HB0 := Hid.mk B0
  clear B0
  go_enter Try.func17, Try.ntmps17
  go_wp2
  have c0 : (w.alloc (.cells #[.slice o1 n1 c1, .slice a1 n2 d1] 25)).cell? ⟨w.heap.size, 1, none⟩ = some (.slice a1 n2 d1) := by simp [go_sem]
  have HCC := Hid.mk (fun (W : World) (b : Below (w.alloc (.cells #[.slice o1 n1 c1, .slice a1 n2 d1] 25)).heap.size (w.alloc (.cells #[.slice o1 n1 c1, .slice a1 n2 d1] 25)) W) => cellLater b c0)
  generalize w.alloc (.cells #[.slice o1 n1 c1, .slice a1 n2 d1] 25) = W at *
  go_loopw [3, 4] (fun c3 c9 wr => ∃ i : Nat, c9 = .int .i64 i ∧ c3 = .int .i64 (szI (wsN gnd i)) ∧ i ≤ n2 ∧ Hid (Below W.heap.size W wr)) (fun _ c9 _ => n2 - (intOf c9).toNat)
  case atStart => exact ⟨0, rfl, by rw [wsN_0], Nat.zero_le _, ⟨Below.refl _ _⟩⟩
  case round =>
    obtain ⟨i, rfl, rfl, hi, BB⟩ := hrel
    have cb := HCC.out wr BB.out
    by_cases hlt : i < n2
    · have hlt' : (i : Int) < n2 := by omega
      have kl : i < gnd.length := by rw [HN.out]; exact hlt
      obtain ⟨g1, f1, _, x, ex, _, _, px, hx⟩ := (Nds.later HG.out (belowOn HB0.out BB.out)).get i kl
      simp only [Value.slice.injEq] at ex
      obtain ⟨rfl, _, rfl⟩ := ex
      have HE : Hid (wsN gnd (i + 1) = wsN gnd i + (1 + gnd[i].ks.length + gnd[i].ns.length)) := ⟨wsN_step gnd i kl⟩
      generalize gnd[i] = X at px HE
      obtain ⟨xk, xi, xns, xks⟩ := X
      obtain ⟨p1, y1, p2, y2, rfl, A1, A2⟩ := px
      dsimp only at hx HE
      obtain ⟨n3, h3⟩ : ∃ n, xns.length = n := ⟨_, rfl⟩
      obtain ⟨n4, h4⟩ : ∃ n, xks.length = n := ⟨_, rfl⟩
      rw [h3, h4] at hx HE
      clear h3 h4 A1 A2
      have a0 : wr.cell? ⟨g1, f1 + i * 4, none⟩ = some (.int .i64 xk) := hx 0 _ rfl
      have a1 : wr.cell? ⟨g1, f1 + i * 4 + 1, none⟩ = some (.int .i64 xi) := hx 1 _ rfl
      have a2 : wr.cell? ⟨g1, f1 + i * 4 + 2, none⟩ = some (.slice p1 n3 y1) := hx 2 _ rfl
      have a3 : wr.cell? ⟨g1, f1 + i * 4 + 3, none⟩ = some (.slice p2 n4 y2) := hx 3 _ rfl
      clear hx
      have HS : Hid (wrap64 (wrap64 (wrap64 (szI (wsN gnd i) + 1) + (n4 : Int)) + n3) = szI (wsN gnd (i + 1))) := ⟨by rw [HE.out]; exact sz_b _ _ _⟩
      go_wp2
      go_quiet (fail)
      go_wp2
      exact ⟨⟨i + 1, by go_num, congrArg (Value.int IntKind.i64) HS.out, by omega, ⟨below_drewN BB.out _⟩⟩, by simp [intOf]; omega⟩
    · obtain rfl : i = n2 := by omega
      go_wp2
      go_ret
      exact ⟨rfl, belowOn HB0.out BB.out⟩
end Go.Proofs.Ytncimddgkgclpaa
