/- The document's Leads. -/
import Derived.Test.YtncimddgkgclpaaOpn
import Derived.Test.YtncimddgkgclpaaWpl
import Derived.Deep.RegionHeld3
import Derived.BigQuiet
namespace Go.Proofs.Ytncimddgkgclpaa
open Go.RowKit
set_option linter.unusedVariables false
set_option linter.unusedSimpArgs false
set_option maxRecDepth 100000

/-- a number too great is none -/
def geI (m : Nat) (x : Int) : Int := if (m : Int) ≤ x then -1 else x
/-- where a node leads, in one step, as the document tells it -/
def ldI (g : List Nd) (n : Nat) : Int :=
  match (nd0 g n).ks with
  | [] => -1
  | k :: _ =>
    if (nd0 g n).k = 8 then geI g.length k
    else if (nd0 g n).k = 7 ∧ 0 ≤ geI g.length k then
      match (nd0 g n).ns with
      | [] => -1
      | j :: _ => if (nd0 g k.toNat).k = 1 ∧ (nd0 g k.toNat).i = (nd0 g n).i ∧ j < (nd0 g k.toNat).ks.length then geI g.length ((nd0 g k.toNat).ks.getD j.toNat 0) else -1
    else -1
theorem Nds.nd {w : World} {g : List Nd} {a : Option Addr} {ca n : Nat} (h : Nds w g (.slice a g.length ca)) (hn : n < g.length) : ∃ q off o1 c1 o2 c2, a = some ⟨q, off, none⟩ ∧ g.length ≤ ca ∧ g.length ≤ maxLen ∧ PS .u64 w o1 c1 (nd0 g n).ns ∧ PS .i64 w o2 c2 (nd0 g n).ks ∧
    w.cell? ⟨q, off + n * 4, none⟩ = some (.int .i64 (nd0 g n).k) ∧ w.cell? ⟨q, off + n * 4 + 1, none⟩ = some (.int .i64 (nd0 g n).i) ∧ w.cell? ⟨q, off + n * 4 + 2, none⟩ = some (.slice o1 (nd0 g n).ns.length c1) ∧ w.cell? ⟨q, off + n * 4 + 3, none⟩ = some (.slice o2 (nd0 g n).ks.length c2) := by
  obtain ⟨q, off, cap, c, e, h1, h2, pc, hx⟩ := h.get n hn
  simp only [Value.slice.injEq] at e
  obtain ⟨rfl, _, rfl⟩ := e
  rw [← nd0_get hn] at pc
  obtain ⟨p1, k1, p2, k2, rfl, P1, P2⟩ := pc
  exact ⟨q, off, p1, k1, p2, k2, rfl, h1, h2, P1, P2, hx 0 _ rfl, hx 1 _ rfl, hx 2 _ rfl, hx 3 _ rfl⟩
set_option maxHeartbeats 4000000 in
theorem leads19_nil (g : Gr) (n : Nat) (o a : Option Addr) (cr ca : Nat) (w : World) (G : Gv w g o cr a ca) (hn : n < g.nd.length) (hk : (nd0 g.nd n).ks = []) :
    Calls Try.prog 19 #[gv g o cr a ca, .int .i64 n] w fun e w' => e = .returned (.int .i64 (-1)) ∧ Below w.heap.size w w' := by
  obtain ⟨q, off, o1, c1, o2, c2, rfl, h1, h2, P1, P2, a0, a1, a2, a3⟩ := G.nd.nd hn
  rw [hk] at a3
  unfold gv
  clear G P1 P2 hk
  unfold maxLen at h2
  have B1 : Below w.heap.size w (w.alloc (.cells #[.slice o g.rs.length cr, .slice (some ⟨q, off, none⟩) g.nd.length ca] 25)) := by go_grown
  have d0 := cellLater B1 a0
  have d1 := cellLater B1 a1
  have d2 := cellLater B1 a2
  have d3 := cellLater B1 a3
  generalize (nd0 g.nd n).ns.length = n1 at *
  generalize g.rs.length = n2 at *
  generalize g.nd.length = m at *
  generalize (nd0 g.nd n).k = xk at *
  generalize (nd0 g.nd n).i = xi at *
  have hn' : (n : Int) < m := by omega
  have B2 : Below w.heap.size w ((w.alloc (.cells #[.slice o n2 cr, .slice (some ⟨q, off, none⟩) m ca] 25)).alloc (.cells #[.int .i64 xk, .int .i64 xi, .slice o1 n1 c1, .slice o2 0 c2] 34)) := by go_grown
  have HB := Hid.mk B2
  clear B1 B2 a0 a1 a2 a3
  go_enter Try.func19, Try.ntmps19
  go_wp2
  go_ret
  exact ⟨rfl, HB.out⟩
set_option maxHeartbeats 4000001 in
/-- the first kid is too great a number -/
theorem leads19_far (g : Gr) (n : Nat) (o a : Option Addr) (cr ca : Nat) (w : World) (G : Gv w g o cr a ca) (hn : n < g.nd.length) (k : Int) (r : List Int) (hk : (nd0 g.nd n).ks = k :: r) (hf : (g.nd.length : Int) ≤ k) :
    Calls Try.prog 19 #[gv g o cr a ca, .int .i64 n] w fun e w' => e = .returned (.int .i64 (-1)) ∧ Below w.heap.size w w' := by
  obtain ⟨q, off, o1, c1, o2, c2, rfl, h1, h2, P1, P2, a0, a1, a2, a3⟩ := G.nd.nd hn
  unfold gv
  have hnd := G.nd
  clear G
  unfold maxLen at h2
  rw [hk] at a3 P2
  have B1 : Below w.heap.size w (w.alloc (.cells #[.slice o g.rs.length cr, .slice (some ⟨q, off, none⟩) g.nd.length ca] 25)) := by go_grown
  have d0 := cellLater B1 a0
  have d1 := cellLater B1 a1
  have d2 := cellLater B1 a2
  have d3 := cellLater B1 a3
  obtain ⟨n3, h3⟩ : ∃ n3, (k :: r).length = n3 := ⟨_, rfl⟩
  have h3p : 0 < n3 := by rw [← h3]; simp
  have hc2 := P2.cap
  have hl2 := P2.len
  unfold maxLen at hl2
  obtain ⟨g2, f2, rfl, k0⟩ := P2.get 0 (by rw [h3]; exact h3p)
  have k0' : w.cell? ⟨g2, f2, none⟩ = some (.int .i64 k) := k0
  rw [h3] at a3 d3 hc2 hl2
  clear P1 P2 hk h3 k0 hnd
  generalize (nd0 g.nd n).ns.length = n1 at *
  generalize g.rs.length = n2 at *
  generalize g.nd.length = m at *
  generalize (nd0 g.nd n).k = xk at *
  generalize (nd0 g.nd n).i = xi at *
  have hn' : (n : Int) < m := by omega
  have e3 : ((n3 : Int) == 0) = false := by simp; omega
  have B2 : Below w.heap.size w ((w.alloc (.cells #[.slice o n2 cr, .slice (some ⟨q, off, none⟩) m ca] 25)).alloc (.cells #[.int .i64 xk, .int .i64 xi, .slice o1 n1 c1, .slice (some ⟨g2, f2, none⟩) n3 c2] 34)) := by go_grown
  have z0 := cellLater B2 k0'
  have HB := Hid.mk B2
  clear B1 B2 a0 a1 a2 a3 k0'
  have ef : k ≥ m := hf
  by_cases e8 : xk = 8
  · subst e8
    go_enter Try.func19, Try.ntmps19
    go_wp2
    go_ret
    exact ⟨rfl, HB.out⟩
  · by_cases e7 : xk = 7
    · subst e7
      go_enter Try.func19, Try.ntmps19
      go_wp2
      go_ret
      exact ⟨rfl, HB.out⟩
    · have n7 : (xk != 7) = true := by simpa using e7
      go_enter Try.func19, Try.ntmps19
      go_wp2
      go_ret
      exact ⟨rfl, HB.out⟩
set_option maxHeartbeats 4000000 in
/-- the node is no KSel, or its first kid or word is lost -/
theorem leads19_ind (g : Gr) (n : Nat) (o a : Option Addr) (cr ca : Nat) (w : World) (G : Gv w g o cr a ca) (hn : n < g.nd.length) (k : Int) (r : List Int) (hk : (nd0 g.nd n).ks = k :: r) (hf : k < g.nd.length) (hx : (nd0 g.nd n).k = 7 → k < 0 ∨ (nd0 g.nd n).ns = []) :
    Calls Try.prog 19 #[gv g o cr a ca, .int .i64 n] w fun e w' => e = .returned (.int .i64 (if (nd0 g.nd n).k = 8 then k else -1)) ∧ Below w.heap.size w w' := by
  obtain ⟨q, off, o1, c1, o2, c2, rfl, h1, h2, P1, P2, a0, a1, a2, a3⟩ := G.nd.nd hn
  unfold gv
  have hnd := G.nd
  clear G
  unfold maxLen at h2
  rw [hk] at a3 P2
  have B1 : Below w.heap.size w (w.alloc (.cells #[.slice o g.rs.length cr, .slice (some ⟨q, off, none⟩) g.nd.length ca] 25)) := by go_grown
  have d0 := cellLater B1 a0
  have d1 := cellLater B1 a1
  have d2 := cellLater B1 a2
  have d3 := cellLater B1 a3
  obtain ⟨n3, h3⟩ : ∃ n3, (k :: r).length = n3 := ⟨_, rfl⟩
  have h3p : 0 < n3 := by rw [← h3]; simp
  have hc2 := P2.cap
  have hl2 := P2.len
  unfold maxLen at hl2
  obtain ⟨g2, f2, rfl, k0⟩ := P2.get 0 (by rw [h3]; exact h3p)
  have k0' : w.cell? ⟨g2, f2, none⟩ = some (.int .i64 k) := k0
  rw [h3] at a3 d3 hc2 hl2
  have hx' : (nd0 g.nd n).k = 7 → k < 0 ∨ (nd0 g.nd n).ns.length = 0 := fun e => (hx e).imp id (fun q => by rw [q]; rfl)
  clear P1 P2 hk h3 k0 hnd hx
  generalize (nd0 g.nd n).ns.length = n1 at *
  generalize g.rs.length = n2 at *
  generalize g.nd.length = m at *
  generalize (nd0 g.nd n).k = xk at *
  generalize (nd0 g.nd n).i = xi at *
  have hn' : (n : Int) < m := by omega
  have e3 : ((n3 : Int) == 0) = false := by simp; omega
  have B2 : Below w.heap.size w ((w.alloc (.cells #[.slice o n2 cr, .slice (some ⟨q, off, none⟩) m ca] 25)).alloc (.cells #[.int .i64 xk, .int .i64 xi, .slice o1 n1 c1, .slice (some ⟨g2, f2, none⟩) n3 c2] 34)) := by go_grown
  have z0 := cellLater B2 k0'
  have HB := Hid.mk B2
  clear B1 B2 a0 a1 a2 a3 k0'
  have ef : ¬ (k ≥ m) := by omega
  by_cases e8 : xk = 8
  · subst e8
    rw [if_pos rfl]
    go_enter Try.func19, Try.ntmps19
    go_wp2
    go_ret
    exact ⟨rfl, HB.out⟩
  · rw [if_neg e8]
    by_cases e7 : xk = 7
    · subst e7
      rcases hx' rfl with e | e
      · go_enter Try.func19, Try.ntmps19
        go_wp2
        go_ret
        exact ⟨rfl, HB.out⟩
      · subst e
        by_cases e : k < 0
        · go_enter Try.func19, Try.ntmps19
          go_wp2
          go_ret
          exact ⟨rfl, HB.out⟩
        · go_enter Try.func19, Try.ntmps19
          go_wp2
          go_ret
          exact ⟨rfl, HB.out⟩
    · have n7 : (xk != 7) = true := by simpa using e7
      go_enter Try.func19, Try.ntmps19
      go_wp2
      go_ret
      exact ⟨rfl, HB.out⟩
set_option maxHeartbeats 8000000 in
/-- a KSel whose first kid is a node -/
theorem leads19_sel (g : Gr) (n k : Nat) (o a : Option Addr) (cr ca : Nat) (w : World) (G : Gv w g o cr a ca) (hn : n < g.nd.length) (r : List Int) (hk : (nd0 g.nd n).ks = (k : Int) :: r) (hf : k < g.nd.length) (j : Int) (s : List Int) (hj : (nd0 g.nd n).ns = j :: s) (hju : InU64 j) (h7 : (nd0 g.nd n).k = 7) :
    Calls Try.prog 19 #[gv g o cr a ca, .int .i64 n] w fun e w' => e = .returned (.int .i64 (if (nd0 g.nd k).k = 1 ∧ (nd0 g.nd k).i = (nd0 g.nd n).i ∧ j < (nd0 g.nd k).ks.length then geI g.nd.length ((nd0 g.nd k).ks.getD j.toNat 0) else -1)) ∧ Below w.heap.size w w' := by
  obtain ⟨q, off, o1, c1, o2, c2, rfl, h1, h2, P1, P2, a0, a1, a2, a3⟩ := G.nd.nd hn
  unfold gv
  have hnd := G.nd
  clear G
  unfold maxLen at h2
  obtain ⟨q', off', o3, c3, o4, c4, e, _, _, P3, P4, b0, b1, b2, b3⟩ := hnd.nd hf
  simp only [Option.some.injEq, Addr.mk.injEq, and_true] at e
  obtain ⟨rfl, rfl⟩ := e
  rw [hk] at a3 P2
  rw [hj] at a2 P1
  rw [h7] at a0
  have B1 : Below w.heap.size w (w.alloc (.cells #[.slice o g.rs.length cr, .slice (some ⟨q, off, none⟩) g.nd.length ca] 25)) := by go_grown
  have d0 := cellLater B1 a0
  have d1 := cellLater B1 a1
  have d2 := cellLater B1 a2
  have d3 := cellLater B1 a3
  obtain ⟨n3, h3⟩ : ∃ n3, ((k : Int) :: r).length = n3 := ⟨_, rfl⟩
  have h3p : 0 < n3 := by rw [← h3]; simp
  obtain ⟨n1, h4⟩ : ∃ n1, (j :: s).length = n1 := ⟨_, rfl⟩
  have h4p : 0 < n1 := by rw [← h4]; simp
  have hc2 := P2.cap
  have hl2 := P2.len
  have hc1 := P1.cap
  have hl1 := P1.len
  have hc4 := P4.cap
  have hl4 := P4.len
  unfold maxLen at hl2 hl1 hl4
  obtain ⟨g2, f2, rfl, k0⟩ := P2.get 0 (by rw [h3]; exact h3p)
  have k0' : w.cell? ⟨g2, f2, none⟩ = some (.int .i64 k) := k0
  obtain ⟨g3, f3, rfl, u0⟩ := P1.get 0 (by rw [h4]; exact h4p)
  have u0' : w.cell? ⟨g3, f3, none⟩ = some (.int .u64 j) := u0
  rw [h3] at a3 d3 hc2 hl2
  rw [h4] at a2 d2 hc1 hl1
  have HK : Hid (∀ i : Nat, i < (nd0 g.nd k).ks.length → ∃ y, (nd0 g.nd k).ks.getD i 0 = y ∧ ∃ g4 f4, o4 = some ⟨g4, f4, none⟩ ∧ w.cell? ⟨g4, f4 + i, none⟩ = some (.int .i64 y)) := ⟨fun i hi => by
    obtain ⟨g4, f4, rfl, y0⟩ := P4.get i hi
    exact ⟨_, by simp [hi], g4, f4, rfl, y0⟩⟩
  generalize (nd0 g.nd k).ks.getD = KD at *
  obtain ⟨n5, h5⟩ : ∃ n5, (nd0 g.nd k).ks.length = n5 := ⟨_, rfl⟩
  rw [h5] at b3 hc4 hl4 HK ⊢
  clear P1 P2 P3 P4 hk hj h3 h4 h5 k0 u0 hnd h7
  generalize (nd0 g.nd k).ns.length = n4 at *
  generalize (nd0 g.nd k).k = ck at *
  generalize (nd0 g.nd k).i = ci at *
  generalize g.rs.length = n2 at *
  generalize g.nd.length = m at *
  generalize (nd0 g.nd n).i = xi at *
  have hn' : (n : Int) < m := by omega
  have e3 : ((n3 : Int) == 0) = false := by simp; omega
  have e4 : ((n1 : Int) == 0) = false := by simp; omega
  have ef : ¬ ((k : Int) ≥ m) := by omega
  have ek : (k : Int) < m := by omega
  have B2 : Below w.heap.size w ((w.alloc (.cells #[.slice o n2 cr, .slice (some ⟨q, off, none⟩) m ca] 25)).alloc (.cells #[.int .i64 7, .int .i64 xi, .slice (some ⟨g3, f3, none⟩) n1 c1, .slice (some ⟨g2, f2, none⟩) n3 c2] 34)) := by go_grown
  have z0 := cellLater B2 k0'
  have y0 := cellLater B2 b0
  have y1 := cellLater B2 b1
  have y2 := cellLater B2 b2
  have y3 := cellLater B2 b3
  have B3 : Below w.heap.size w (((w.alloc (.cells #[.slice o n2 cr, .slice (some ⟨q, off, none⟩) m ca] 25)).alloc (.cells #[.int .i64 7, .int .i64 xi, .slice (some ⟨g3, f3, none⟩) n1 c1, .slice (some ⟨g2, f2, none⟩) n3 c2] 34)).alloc (.cells #[.int .i64 ck, .int .i64 ci, .slice o3 n4 c3, .slice o4 n5 c4] 34)) := by go_grown
  have u1 := cellLater B3 u0'
  have HB := Hid.mk B3
  have HKC := Hid.mk (fun (g4 f4 : Nat) (v : Value) (h : w.cell? ⟨g4, f4, none⟩ = some v) => cellLater B3 h)
  clear B1 B2 B3 a0 a1 a2 a3 k0' u0' b0 b1 b2 b3
  obtain ⟨hj0, hj1⟩ := hju
  by_cases e1 : ck = 1
  case neg =>
    have n8 : (ck != 1) = true := by simpa using e1
    rw [if_neg (fun q => e1 q.1)]
    go_enter Try.func19, Try.ntmps19
    go_wp2
    go_quiet (fail)
    go_wp2
    go_ret
    exact ⟨rfl, below_drewN HB.out _⟩
  subst e1
  by_cases e2 : ci = xi
  case neg =>
    have n8 : (ci != xi) = true := by simpa using e2
    rw [if_neg (fun q => e2 q.2.1)]
    go_enter Try.func19, Try.ntmps19
    go_wp2
    go_quiet (fail)
    go_wp2
    go_ret
    exact ⟨rfl, below_drewN HB.out _⟩
  subst e2
  have n9 : (ci != ci) = false := by simp
  by_cases e5 : j < n5
  case neg =>
    have e5' : j ≥ (n5 : Int) := by omega
    rw [if_neg (fun q => e5 q.2.2)]
    go_enter Try.func19, Try.ntmps19
    go_wp2
    go_quiet (fail)
    go_wp2
    go_ret
    exact ⟨rfl, below_drewN HB.out _⟩
  rw [if_pos ⟨rfl, rfl, e5⟩]
  obtain ⟨j', rfl⟩ : ∃ j' : Nat, j = j' := ⟨j.toNat, by omega⟩
  obtain ⟨y, hy, g4, f4, rfl, yc⟩ := HK.out j' (by omega)
  have yc' := HKC.out _ _ _ yc
  clear yc
  have e5' : ¬ ((j' : Int) ≥ n5) := by omega
  rw [show ((j' : Int)).toNat = j' by omega, hy]
  unfold geI
  by_cases e6 : (m : Int) ≤ y
  · rw [if_pos e6]
    have e6' : y ≥ (m : Int) := e6
    go_enter Try.func19, Try.ntmps19
    go_wp2
    go_quiet (fail)
    go_wp2
    go_quiet (fail)
    go_wp2
    go_ret
    exact ⟨rfl, below_drewN HB.out _⟩
  · rw [if_neg e6]
    have e6' : ¬ (y ≥ (m : Int)) := e6
    go_enter Try.func19, Try.ntmps19
    go_wp2
    go_quiet (fail)
    go_wp2
    go_quiet (fail)
    go_wp2
    go_ret
    exact ⟨rfl, below_drewN HB.out _⟩
theorem leads19 (g : Gr) (n : Nat) (o a : Option Addr) (cr ca : Nat) (w : World) (G : Gv w g o cr a ca) (hn : n < g.nd.length) (ok : OkD (nd0 g.nd n)) :
    Calls Try.prog 19 #[gv g o cr a ca, .int .i64 n] w fun e w' => e = .returned (.int .i64 (ldI g.nd n)) ∧ Below w.heap.size w w' := by
  unfold ldI
  cases hk : (nd0 g.nd n).ks with
  | nil => exact leads19_nil g n o a cr ca w G hn hk
  | cons k r =>
    simp only
    by_cases hf : (g.nd.length : Int) ≤ k
    · have e : geI g.nd.length k = -1 := if_pos hf
      rw [e]
      refine (leads19_far g n o a cr ca w G hn k r hk hf).mono ?_
      rintro e w' ⟨rfl, B⟩
      refine ⟨retInt ?_, B⟩
      split
      · rfl
      · rw [if_neg (fun q => by have := q.2; omega)]
    · have e : geI g.nd.length k = k := if_neg hf
      rw [e]
      by_cases hx : (nd0 g.nd n).k = 7 → k < 0 ∨ (nd0 g.nd n).ns = []
      · have := leads19_ind g n o a cr ca w G hn k r hk (by omega) hx
        refine this.mono ?_
        rintro e w' ⟨rfl, B⟩
        refine ⟨retInt ?_, B⟩
        split
        · rfl
        · split
          · rename_i q
            rcases hx q.1 with z | z
            · omega
            · rw [z]
          · rfl
      · have h7 : (nd0 g.nd n).k = 7 := Classical.byContradiction fun q => hx (fun z => absurd z q)
        have hk0 : ¬ k < 0 := fun q => hx (fun _ => .inl q)
        have hns : (nd0 g.nd n).ns ≠ [] := fun q => hx (fun _ => .inr q)
        obtain ⟨k', rfl⟩ : ∃ k' : Nat, k = k' := ⟨k.toNat, by omega⟩
        rw [if_neg (by omega), if_pos ⟨h7, by omega⟩]
        cases hj : (nd0 g.nd n).ns with
        | nil => exact absurd hj hns
        | cons j s =>
          simp only
          rw [show ((k' : Int)).toNat = k' by omega]
          exact leads19_sel g n k' o a cr ca w G hn r hk (by omega) j s hj (ok.ns j (by rw [hj]; simp)) h7
end Go.Proofs.Ytncimddgkgclpaa
