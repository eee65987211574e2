/- The document's Same, of graphs. -/
import Derived.Test.YtncimddgkgclpaaGre
import Derived.Deep.RegionHeld3
namespace Go.Proofs.Ytncimddgkgclpaa
open Go.RowKit
set_option linter.unusedVariables false
set_option linter.unusedSimpArgs false
set_option maxRecDepth 100000

theorem nd_at0 {w : World} {v0 v1 v2 v3 u0 u1 u2 u3 : Value} : ((w.alloc (.cells #[v0, v1, v2, v3] 34)).alloc (.cells #[u0, u1, u2, u3] 34)).cell? ⟨w.heap.size, 2, none⟩ = some v2 := by simp [go_sem]
set_option maxHeartbeats 8000000 in
theorem same10 (g h : Gr) (o1 o2 a1 a2 : Option Addr) (c1 c2 d1 d2 : Nat) (w : World) (G : Gv w g o1 c1 a1 d1) (H : Gv w h o2 c2 a2 d2) :
    Calls Try.prog 10 #[gv g o1 c1 a1 d1, gv h o2 c2 a2 d2] w fun e w' => (∃ b, e = .returned (.bool b) ∧ (b = true ↔ SameG g h)) ∧ Below w.heap.size w w' := by
  unfold gv
  obtain ⟨grs, gnd⟩ := g
  obtain ⟨hrs, hnd⟩ := h
  obtain ⟨G1, G2⟩ := G
  obtain ⟨H1, H2⟩ := H
  dsimp only at *
  have C1 := fun (n1 n2 m : Nat) (W : World) (b : Below w.heap.size w W) => same20 grs hrs o1 o2 o1 o2 a1 a2 c1 c2 c1 c2 d1 d2 n1 n2 m W (G1.later b) (H1.later b)
  have HG := Hid.mk G2
  have HH := Hid.mk H2
  obtain ⟨_, _, q1, q2, _⟩ := G2
  obtain ⟨_, _, q3, q4, _⟩ := H2
  simp only [Value.slice.injEq] at q1 q3
  obtain ⟨rfl, _, rfl⟩ := q1
  obtain ⟨rfl, _, rfl⟩ := q3
  have hc1 := q2.1
  have hc2 := q2.2
  have hc3 := q4.1
  unfold maxLen at hc2
  obtain ⟨n1, e1⟩ : ∃ n, grs.length = n := ⟨_, rfl⟩
  obtain ⟨n2, e2⟩ : ∃ n, gnd.length = n := ⟨_, rfl⟩
  obtain ⟨n3, e3⟩ : ∃ n, hrs.length = n := ⟨_, rfl⟩
  obtain ⟨n4, e4⟩ : ∃ n, hnd.length = n := ⟨_, rfl⟩
  have HN := Hid.mk e2
  have HN2 := Hid.mk e4
  have HC1 := Hid.mk C1
  rw [e1, e3] at HC1
  rw [e1, e2, e3, e4]
  rw [e2] at hc1 hc2
  rw [e4] at hc3
  clear G1 H1 q2 q4 C1 e1 e2 e3 e4
  have B0 : Below w.heap.size w ((w.alloc (.cells #[.slice o1 n1 c1, .slice a1 n2 d1] 25)).alloc (.cells #[.slice o2 n3 c2, .slice a2 n4 d2] 25)) := by go_grown
  have HB0 := Hid.mk B0
  clear B0
  by_cases hh : n2 = n4
  case neg =>
    have e0 : ((n2 : Int) != n4) = true := by simp; omega
    have hh' := Hid.mk hh
    clear hh
    go_enter Try.func10, Try.ntmps10
    go_wp2
    go_ret
    exact ⟨⟨false, rfl, ⟨fun h => (by cases h), fun h => absurd (HN.out.symm.trans (h.len.trans HN2.out)) hh'.out⟩⟩, HB0.out⟩
  case pos =>
  subst hh
  have e0 : ((n2 : Int) != n2) = false := by simp
  have x1 : ((w.alloc (.cells #[.slice o1 n1 c1, .slice a1 n2 d1] 25)).alloc (.cells #[.slice o2 n3 c2, .slice a2 n2 d2] 25)).cell? ⟨w.heap.size, 1, none⟩ = some (.slice a1 n2 d1) := by simp [go_sem]
  have x3 : ((w.alloc (.cells #[.slice o1 n1 c1, .slice a1 n2 d1] 25)).alloc (.cells #[.slice o2 n3 c2, .slice a2 n2 d2] 25)).cell? ⟨w.heap.size + 1, 1, none⟩ = some (.slice a2 n2 d2) := by simp [go_sem]
  have x0 : ((w.alloc (.cells #[.slice o1 n1 c1, .slice a1 n2 d1] 25)).alloc (.cells #[.slice o2 n3 c2, .slice a2 n2 d2] 25)).cell? ⟨w.heap.size, 0, none⟩ = some (.slice o1 n1 c1) := by simp [go_sem]
  have x2 : ((w.alloc (.cells #[.slice o1 n1 c1, .slice a1 n2 d1] 25)).alloc (.cells #[.slice o2 n3 c2, .slice a2 n2 d2] 25)).cell? ⟨w.heap.size + 1, 0, none⟩ = some (.slice o2 n3 c2) := by simp [go_sem]
  have HS0 := Hid.mk (fun (W : World) (b : Below ((w.alloc (.cells #[.slice o1 n1 c1, .slice a1 n2 d1] 25)).alloc (.cells #[.slice o2 n3 c2, .slice a2 n2 d2] 25)).heap.size ((w.alloc (.cells #[.slice o1 n1 c1, .slice a1 n2 d1] 25)).alloc (.cells #[.slice o2 n3 c2, .slice a2 n2 d2] 25)) W) => And.intro (cellLater b x0) (And.intro (cellLater b x1) (And.intro (cellLater b x2) (cellLater b x3))))
  have CR := HC1.out n1 n3 n2 _ HB0.out
  clear x0 x1 x2 x3
  go_enter Try.func10, Try.ntmps10
  go_wp2_with (go_at_call 20; refine CR.mono ?_; clear CR; rintro e w1 ⟨⟨b, rfl, hb⟩, B1⟩; have HR := Hid.mk hb; clear hb; cases b)
  · go_ret
    exact ⟨⟨false, rfl, ⟨fun h => (by cases h), fun h => absurd (HR.out.2 ((SameG.iff HN.out).1 h).1) (by simp)⟩⟩, belowOn HB0.out B1⟩
  have hB1 := Hid.mk B1
  clear B1
  generalize (w.alloc (.cells #[.slice o1 n1 c1, .slice a1 n2 d1] 25)).alloc (.cells #[.slice o2 n3 c2, .slice a2 n2 d2] 25) = W at *
  go_loopw [5] (fun cv wr => ∃ i : Nat, cv = .int .i64 i ∧ i ≤ n2 ∧ Hid (∀ j (h : j < gnd.length) (h' : j < hnd.length), j < i → SameD n2 gnd[j] hnd[j]) ∧ Hid (Below W.heap.size W wr)) (fun cv _ => n2 - (intOf cv).toNat)
  case atStart => exact ⟨0, rfl, Nat.zero_le _, ⟨fun j _ _ hj => absurd hj (Nat.not_lt_zero _)⟩, hB1⟩
  case round =>
    obtain ⟨i, rfl, hi, HP, BB⟩ := hrel
    obtain ⟨z0, z1, z2, z3⟩ := HS0.out _ BB.out
    by_cases hlt : i < n2
    case neg =>
      obtain rfl : i = n2 := by omega
      go_wp2
      go_ret
      exact ⟨⟨true, rfl, ⟨fun _ => (SameG.iff HN.out).2 ⟨HR.out.1 trivial, HN.out.trans HN2.out.symm, fun j h h' => HP.out j h h' (by have := HN.out; omega)⟩, fun _ => rfl⟩⟩, belowOn HB0.out BB.out⟩
    case pos =>
    have hlt' : (i : Int) < n2 := by omega
    have kl : i < gnd.length := by rw [HN.out]; exact hlt
    have kr : i < hnd.length := by rw [HN2.out]; exact hlt
    obtain ⟨g1, f1, _, x, ex, _, _, px, hx⟩ := (Nds.later HG.out (belowOn HB0.out BB.out)).get i kl
    obtain ⟨g2, f2, _, y, ey, _, _, py, hy⟩ := (Nds.later HH.out (belowOn HB0.out BB.out)).get i kr
    simp only [Value.slice.injEq] at ex ey
    obtain ⟨rfl, _, rfl⟩ := ex
    obtain ⟨rfl, _, rfl⟩ := ey
    have HE : Hid (∀ j (h : j < gnd.length) (h' : j < hnd.length), j = i → (SameD n2 gnd[j] hnd[j] ↔ SameD n2 gnd[i] hnd[i])) := ⟨fun j h h' e => by subst e; rfl⟩
    generalize gnd[i] = X at px HE
    generalize hnd[i] = Y at py HE
    obtain ⟨xk, xi, xns, xks⟩ := X
    obtain ⟨yk, yi, yns, yks⟩ := Y
    obtain ⟨p1, s1, p2, s2, rfl, A1, A2⟩ := px
    obtain ⟨p3, s3, p4, s4, rfl, A3, A4⟩ := py
    dsimp only at A1 A2 A3 A4 hx hy
    have HA1 := Hid.mk A1
    have HA3 := Hid.mk A3
    have CK := fun (W' : World) (b : Below wr.heap.size wr W') => same20 xks yks p2 p4 o1 o2 (some ⟨g1, f1, none⟩) (some ⟨g2, f2, none⟩) s2 s4 c1 c2 d1 d2 n1 n3 n2 W' (A2.later b) (A4.later b)
    have hns := A1.len
    have hcx := A1.cap
    have hcy := A3.cap
    unfold maxLen at hns
    obtain ⟨n5, h5⟩ : ∃ n, xns.length = n := ⟨_, rfl⟩
    obtain ⟨n6, h6⟩ : ∃ n, xks.length = n := ⟨_, rfl⟩
    obtain ⟨n7, h7⟩ : ∃ n, yns.length = n := ⟨_, rfl⟩
    obtain ⟨n8, h8⟩ : ∃ n, yks.length = n := ⟨_, rfl⟩
    rw [h6, h8] at CK
    rw [h5, h6] at hx
    rw [h7, h8] at hy
    rw [h5] at hns hcx
    rw [h7] at hcy
    have HL5 := Hid.mk h5
    have HL7 := Hid.mk h7
    have HCK := Hid.mk CK
    clear h5 h6 h7 h8 A1 A2 A3 A4 CK
    have a0 : wr.cell? ⟨g1, f1 + i * 4, none⟩ = some (.int .i64 xk) := hx 0 _ rfl
    have a1 : wr.cell? ⟨g1, f1 + i * 4 + 1, none⟩ = some (.int .i64 xi) := hx 1 _ rfl
    have a2 : wr.cell? ⟨g1, f1 + i * 4 + 2, none⟩ = some (.slice p1 n5 s1) := hx 2 _ rfl
    have a3 : wr.cell? ⟨g1, f1 + i * 4 + 3, none⟩ = some (.slice p2 n6 s2) := hx 3 _ rfl
    have b0 : wr.cell? ⟨g2, f2 + i * 4, none⟩ = some (.int .i64 yk) := hy 0 _ rfl
    have b1 : wr.cell? ⟨g2, f2 + i * 4 + 1, none⟩ = some (.int .i64 yi) := hy 1 _ rfl
    have b2 : wr.cell? ⟨g2, f2 + i * 4 + 2, none⟩ = some (.slice p3 n7 s3) := hy 2 _ rfl
    have b3 : wr.cell? ⟨g2, f2 + i * 4 + 3, none⟩ = some (.slice p4 n8 s4) := hy 3 _ rfl
    clear hx hy
    go_wp2
    go_region_held3 (fun W' => W'.cell? ⟨w.heap.size, 1, none⟩ = some (.slice (some ⟨g1, f1, none⟩) n2 d1) ∧ W'.cell? ⟨w.heap.size + 1, 1, none⟩ = some (.slice (some ⟨g2, f2, none⟩) n2 d2) ∧ W'.cell? ⟨g1, f1 + i * 4, none⟩ = some (.int .i64 xk) ∧ W'.cell? ⟨g1, f1 + i * 4 + 1, none⟩ = some (.int .i64 xi) ∧ W'.cell? ⟨g1, f1 + i * 4 + 2, none⟩ = some (.slice p1 n5 s1) ∧ W'.cell? ⟨g1, f1 + i * 4 + 3, none⟩ = some (.slice p2 n6 s2) ∧ W'.cell? ⟨g2, f2 + i * 4, none⟩ = some (.int .i64 yk) ∧ W'.cell? ⟨g2, f2 + i * 4 + 1, none⟩ = some (.int .i64 yi) ∧ W'.cell? ⟨g2, f2 + i * 4 + 2, none⟩ = some (.slice p3 n7 s3) ∧ W'.cell? ⟨g2, f2 + i * 4 + 3, none⟩ = some (.slice p4 n8 s4)) (go_keep) (fail)
    · have B6 : Below wr.heap.size wr ((wr.alloc (.cells #[.int .i64 xk, .int .i64 xi, .slice p1 n5 s1, .slice p2 n6 s2] 34)).alloc (.cells #[.int .i64 yk, .int .i64 yi, .slice p3 n7 s3, .slice p4 n8 s4] 34)).drew := Below.drew (by go_grown)
      have k0 : ((wr.alloc (.cells #[.int .i64 xk, .int .i64 xi, .slice p1 n5 s1, .slice p2 n6 s2] 34)).alloc (.cells #[.int .i64 yk, .int .i64 yi, .slice p3 n7 s3, .slice p4 n8 s4] 34)).drew.cell? ⟨wr.heap.size, 0, none⟩ = some (.int .i64 xk) := by simp [go_sem]
      have k1 : ((wr.alloc (.cells #[.int .i64 xk, .int .i64 xi, .slice p1 n5 s1, .slice p2 n6 s2] 34)).alloc (.cells #[.int .i64 yk, .int .i64 yi, .slice p3 n7 s3, .slice p4 n8 s4] 34)).drew.cell? ⟨wr.heap.size, 1, none⟩ = some (.int .i64 xi) := by simp [go_sem]
      have k2 : ((wr.alloc (.cells #[.int .i64 xk, .int .i64 xi, .slice p1 n5 s1, .slice p2 n6 s2] 34)).alloc (.cells #[.int .i64 yk, .int .i64 yi, .slice p3 n7 s3, .slice p4 n8 s4] 34)).drew.cell? ⟨wr.heap.size, 2, none⟩ = some (.slice p1 n5 s1) := by simp [go_sem]
      have k3 : ((wr.alloc (.cells #[.int .i64 xk, .int .i64 xi, .slice p1 n5 s1, .slice p2 n6 s2] 34)).alloc (.cells #[.int .i64 yk, .int .i64 yi, .slice p3 n7 s3, .slice p4 n8 s4] 34)).drew.cell? ⟨wr.heap.size, 3, none⟩ = some (.slice p2 n6 s2) := by simp [go_sem]
      have l0 : ((wr.alloc (.cells #[.int .i64 xk, .int .i64 xi, .slice p1 n5 s1, .slice p2 n6 s2] 34)).alloc (.cells #[.int .i64 yk, .int .i64 yi, .slice p3 n7 s3, .slice p4 n8 s4] 34)).drew.cell? ⟨wr.heap.size + 1, 0, none⟩ = some (.int .i64 yk) := by simp [go_sem]
      have l1 : ((wr.alloc (.cells #[.int .i64 xk, .int .i64 xi, .slice p1 n5 s1, .slice p2 n6 s2] 34)).alloc (.cells #[.int .i64 yk, .int .i64 yi, .slice p3 n7 s3, .slice p4 n8 s4] 34)).drew.cell? ⟨wr.heap.size + 1, 1, none⟩ = some (.int .i64 yi) := by simp [go_sem]
      have l2 : ((wr.alloc (.cells #[.int .i64 xk, .int .i64 xi, .slice p1 n5 s1, .slice p2 n6 s2] 34)).alloc (.cells #[.int .i64 yk, .int .i64 yi, .slice p3 n7 s3, .slice p4 n8 s4] 34)).drew.cell? ⟨wr.heap.size + 1, 2, none⟩ = some (.slice p3 n7 s3) := by simp [go_sem]
      have l3 : ((wr.alloc (.cells #[.int .i64 xk, .int .i64 xi, .slice p1 n5 s1, .slice p2 n6 s2] 34)).alloc (.cells #[.int .i64 yk, .int .i64 yi, .slice p3 n7 s3, .slice p4 n8 s4] 34)).drew.cell? ⟨wr.heap.size + 1, 3, none⟩ = some (.slice p4 n8 s4) := by simp [go_sem]
      generalize ((wr.alloc (.cells #[.int .i64 xk, .int .i64 xi, .slice p1 n5 s1, .slice p2 n6 s2] 34)).alloc (.cells #[.int .i64 yk, .int .i64 yi, .slice p3 n7 s3, .slice p4 n8 s4] 34)).drew = W6 at *
      have HB6 := Hid.mk B6
      have CK := HCK.out W6 B6
      clear B6 a0 a1 a2 a3 b0 b1 b2 b3
      obtain ⟨z0, z1, z2, z3⟩ := HS0.out _ (belowOn BB.out HB6.out)
      by_cases e1 : xk = yk
      case neg =>
        have g1 : (xk != yk) = true := by simpa using e1
        have HZ := Hid.mk e1
        clear e1
        go_wp2
        go_ret
        exact ⟨⟨false, rfl, ⟨fun h => (by cases h), fun h => absurd ((HE.out i kl kr rfl).1 (((SameG.iff HN.out).1 h).2.2 i kl kr)).k HZ.out⟩⟩, belowOn HB0.out (belowOn BB.out HB6.out)⟩
      case pos =>
      subst e1
      have g1 : (xk != xk) = false := by simp
      by_cases e1 : xi = yi
      case neg =>
        have g2 : (xi != yi) = true := by simpa using e1
        have HZ := Hid.mk e1
        clear e1
        go_wp2
        go_ret
        exact ⟨⟨false, rfl, ⟨fun h => (by cases h), fun h => absurd ((HE.out i kl kr rfl).1 (((SameG.iff HN.out).1 h).2.2 i kl kr)).i HZ.out⟩⟩, belowOn HB0.out (belowOn BB.out HB6.out)⟩
      case pos =>
      subst e1
      have g2 : (xi != xi) = false := by simp
      by_cases e1 : n5 = n7
      case neg =>
        have g3 : ((n5 : Int) != n7) = true := by simp; omega
        have HZ := Hid.mk e1
        clear e1
        go_wp2
        go_ret
        exact ⟨⟨false, rfl, ⟨fun h => (by cases h), fun h => absurd (HL5.out.symm.trans (((HE.out i kl kr rfl).1 (((SameG.iff HN.out).1 h).2.2 i kl kr)).ns.1.trans HL7.out)) HZ.out⟩⟩, belowOn HB0.out (belowOn BB.out HB6.out)⟩
      case pos =>
      subst e1
      have g3 : ((n5 : Int) != n5) = false := by simp
      go_wp2_with (go_at_call 20; refine CK.mono ?_; clear CK; rintro e w7 ⟨⟨bb, rfl, hbb⟩, B7⟩; have HKS := Hid.mk hbb; clear hbb; cases bb)
      · go_ret
        exact ⟨⟨false, rfl, ⟨fun h => (by cases h), fun h => absurd (HKS.out.2 ((HE.out i kl kr rfl).1 (((SameG.iff HN.out).1 h).2.2 i kl kr)).ks) (by simp)⟩⟩, belowOn HB0.out (belowOn BB.out (belowOn HB6.out B7))⟩
      have HB7 := Hid.mk (belowOn HB6.out B7)
      have m2 := cellLater B7 k2
      have m3 := cellLater B7 l2
      have HM := Hid.mk (fun (W' : World) (b : Below w7.heap.size w7 W') => And.intro (cellLater b m2) (cellLater b m3))
      clear B7 k0 k1 k2 k3 l0 l1 l2 l3 m2 m3 z0 z1 z2 z3
      go_loopw [8] (fun cv wq => ∃ k : Nat, cv = .int .i64 k ∧ k ≤ n5 ∧ Hid (∀ j (h : j < xns.length) (h' : j < yns.length), j < k → xns[j] = yns[j]) ∧ Hid (Below w7.heap.size w7 wq)) (fun cv _ => n5 - (intOf cv).toNat)
      case atStart => exact ⟨0, rfl, Nat.zero_le _, ⟨fun j _ _ hj => absurd hj (Nat.not_lt_zero _)⟩, ⟨Below.refl _ _⟩⟩
      case round =>
        obtain ⟨k, rfl, hk, HPK, BQ⟩ := hrel
        obtain ⟨m2, m3⟩ := HM.out _ BQ.out
        by_cases hlk : k < n5
        case neg =>
          obtain rfl : k = n5 := by omega
          have HD : Hid (SameD n2 ⟨xk, xi, xns, xks⟩ ⟨xk, xi, yns, yks⟩) := ⟨⟨rfl, rfl, ⟨HL5.out.trans HL7.out.symm, fun j h h' => HPK.out j h h' (by have := HL5.out; have h2 : j < xns.length := h; omega)⟩, HKS.out.1 trivial⟩⟩
          go_wp2
          exact ⟨⟨i + 1, by go_num, by omega, ⟨fun j h1 h2 hj => (Nat.lt_succ_iff_lt_or_eq.1 hj).elim (HP.out j h1 h2) (fun e => (HE.out j h1 h2 e).2 HD.out)⟩, ⟨belowOn BB.out (belowOn HB7.out BQ.out)⟩⟩, by simp [intOf]; omega⟩
        case pos =>
        have hlk' : (k : Int) < n5 := by omega
        have kx : k < xns.length := by rw [HL5.out]; exact hlk
        have ky : k < yns.length := by rw [HL7.out]; exact hlk
        obtain ⟨gx, fx, rfl, cx⟩ := (HA1.out.later (belowOn HB7.out BQ.out)).get k kx
        obtain ⟨gy, fy, rfl, cy⟩ := (HA3.out.later (belowOn HB7.out BQ.out)).get k ky
        have HEK : Hid (∀ j (h : j < xns.length) (h' : j < yns.length), j = k → (xns[j] = yns[j] ↔ xns[k] = yns[k])) := ⟨fun j h h' e => by subst e; rfl⟩
        generalize xns[k] = x at cx HEK
        generalize yns[k] = y at cy HEK
        by_cases hz : x = y
        · have hz' : Hid (x = y) := ⟨hz⟩
          have en : (x != y) = false := by simp [hz]
          clear hz
          go_wp2
          go_quiet (fail)
          go_wp2
          exact ⟨⟨k + 1, by go_num, by omega, ⟨fun j h1 h2 hj => (Nat.lt_succ_iff_lt_or_eq.1 hj).elim (HPK.out j h1 h2) (fun e => (HEK.out j h1 h2 e).2 hz'.out)⟩, ⟨below_drewN BQ.out _⟩⟩, by simp [intOf]; omega⟩
        · have hz' : Hid (¬ x = y) := ⟨hz⟩
          have en : (x != y) = true := by simpa using hz
          clear hz
          go_wp2
          go_quiet (fail)
          go_wp2
          go_ret
          exact ⟨⟨false, rfl, ⟨fun h => (by cases h), fun h => absurd ((HEK.out k kx ky rfl).1 (((HE.out i kl kr rfl).1 (((SameG.iff HN.out).1 h).2.2 i kl kr)).ns.2 k kx ky)) hz'.out⟩⟩, belowOn HB0.out (belowOn BB.out (belowOn HB7.out (below_drewN BQ.out _)))⟩
    · have B6 : Below wr.heap.size wr ((wr.alloc (.cells #[.int .i64 yk, .int .i64 yi, .slice p3 n7 s3, .slice p4 n8 s4] 34)).alloc (.cells #[.int .i64 xk, .int .i64 xi, .slice p1 n5 s1, .slice p2 n6 s2] 34)).drew := Below.drew (by go_grown)
      have k0 : ((wr.alloc (.cells #[.int .i64 yk, .int .i64 yi, .slice p3 n7 s3, .slice p4 n8 s4] 34)).alloc (.cells #[.int .i64 xk, .int .i64 xi, .slice p1 n5 s1, .slice p2 n6 s2] 34)).drew.cell? ⟨wr.heap.size + 1, 0, none⟩ = some (.int .i64 xk) := by simp [go_sem]
      have k1 : ((wr.alloc (.cells #[.int .i64 yk, .int .i64 yi, .slice p3 n7 s3, .slice p4 n8 s4] 34)).alloc (.cells #[.int .i64 xk, .int .i64 xi, .slice p1 n5 s1, .slice p2 n6 s2] 34)).drew.cell? ⟨wr.heap.size + 1, 1, none⟩ = some (.int .i64 xi) := by simp [go_sem]
      have k2 : ((wr.alloc (.cells #[.int .i64 yk, .int .i64 yi, .slice p3 n7 s3, .slice p4 n8 s4] 34)).alloc (.cells #[.int .i64 xk, .int .i64 xi, .slice p1 n5 s1, .slice p2 n6 s2] 34)).drew.cell? ⟨wr.heap.size + 1, 2, none⟩ = some (.slice p1 n5 s1) := by simp [go_sem]
      have k3 : ((wr.alloc (.cells #[.int .i64 yk, .int .i64 yi, .slice p3 n7 s3, .slice p4 n8 s4] 34)).alloc (.cells #[.int .i64 xk, .int .i64 xi, .slice p1 n5 s1, .slice p2 n6 s2] 34)).drew.cell? ⟨wr.heap.size + 1, 3, none⟩ = some (.slice p2 n6 s2) := by simp [go_sem]
      have l0 : ((wr.alloc (.cells #[.int .i64 yk, .int .i64 yi, .slice p3 n7 s3, .slice p4 n8 s4] 34)).alloc (.cells #[.int .i64 xk, .int .i64 xi, .slice p1 n5 s1, .slice p2 n6 s2] 34)).drew.cell? ⟨wr.heap.size, 0, none⟩ = some (.int .i64 yk) := by simp [go_sem]
      have l1 : ((wr.alloc (.cells #[.int .i64 yk, .int .i64 yi, .slice p3 n7 s3, .slice p4 n8 s4] 34)).alloc (.cells #[.int .i64 xk, .int .i64 xi, .slice p1 n5 s1, .slice p2 n6 s2] 34)).drew.cell? ⟨wr.heap.size, 1, none⟩ = some (.int .i64 yi) := by simp [go_sem]
      have l2 : ((wr.alloc (.cells #[.int .i64 yk, .int .i64 yi, .slice p3 n7 s3, .slice p4 n8 s4] 34)).alloc (.cells #[.int .i64 xk, .int .i64 xi, .slice p1 n5 s1, .slice p2 n6 s2] 34)).drew.cell? ⟨wr.heap.size, 2, none⟩ = some (.slice p3 n7 s3) := by simp [go_sem]
      have l3 : ((wr.alloc (.cells #[.int .i64 yk, .int .i64 yi, .slice p3 n7 s3, .slice p4 n8 s4] 34)).alloc (.cells #[.int .i64 xk, .int .i64 xi, .slice p1 n5 s1, .slice p2 n6 s2] 34)).drew.cell? ⟨wr.heap.size, 3, none⟩ = some (.slice p4 n8 s4) := by simp [go_sem]
      generalize ((wr.alloc (.cells #[.int .i64 yk, .int .i64 yi, .slice p3 n7 s3, .slice p4 n8 s4] 34)).alloc (.cells #[.int .i64 xk, .int .i64 xi, .slice p1 n5 s1, .slice p2 n6 s2] 34)).drew = W6 at *
      have HB6 := Hid.mk B6
      have CK := HCK.out W6 B6
      clear B6 a0 a1 a2 a3 b0 b1 b2 b3
      obtain ⟨z0, z1, z2, z3⟩ := HS0.out _ (belowOn BB.out HB6.out)
      by_cases e1 : xk = yk
      case neg =>
        have g1 : (xk != yk) = true := by simpa using e1
        have HZ := Hid.mk e1
        clear e1
        go_wp2
        go_ret
        exact ⟨⟨false, rfl, ⟨fun h => (by cases h), fun h => absurd ((HE.out i kl kr rfl).1 (((SameG.iff HN.out).1 h).2.2 i kl kr)).k HZ.out⟩⟩, belowOn HB0.out (belowOn BB.out HB6.out)⟩
      case pos =>
      subst e1
      have g1 : (xk != xk) = false := by simp
      by_cases e1 : xi = yi
      case neg =>
        have g2 : (xi != yi) = true := by simpa using e1
        have HZ := Hid.mk e1
        clear e1
        go_wp2
        go_ret
        exact ⟨⟨false, rfl, ⟨fun h => (by cases h), fun h => absurd ((HE.out i kl kr rfl).1 (((SameG.iff HN.out).1 h).2.2 i kl kr)).i HZ.out⟩⟩, belowOn HB0.out (belowOn BB.out HB6.out)⟩
      case pos =>
      subst e1
      have g2 : (xi != xi) = false := by simp
      by_cases e1 : n5 = n7
      case neg =>
        have g3 : ((n5 : Int) != n7) = true := by simp; omega
        have HZ := Hid.mk e1
        clear e1
        go_wp2
        go_ret
        exact ⟨⟨false, rfl, ⟨fun h => (by cases h), fun h => absurd (HL5.out.symm.trans (((HE.out i kl kr rfl).1 (((SameG.iff HN.out).1 h).2.2 i kl kr)).ns.1.trans HL7.out)) HZ.out⟩⟩, belowOn HB0.out (belowOn BB.out HB6.out)⟩
      case pos =>
      subst e1
      have g3 : ((n5 : Int) != n5) = false := by simp
      go_wp2_with (go_at_call 20; refine CK.mono ?_; clear CK; rintro e w7 ⟨⟨bb, rfl, hbb⟩, B7⟩; have HKS := Hid.mk hbb; clear hbb; cases bb)
      · go_ret
        exact ⟨⟨false, rfl, ⟨fun h => (by cases h), fun h => absurd (HKS.out.2 ((HE.out i kl kr rfl).1 (((SameG.iff HN.out).1 h).2.2 i kl kr)).ks) (by simp)⟩⟩, belowOn HB0.out (belowOn BB.out (belowOn HB6.out B7))⟩
      have HB7 := Hid.mk (belowOn HB6.out B7)
      have m2 := cellLater B7 k2
      have m3 := cellLater B7 l2
      have HM := Hid.mk (fun (W' : World) (b : Below w7.heap.size w7 W') => And.intro (cellLater b m2) (cellLater b m3))
      clear B7 k0 k1 k2 k3 l0 l1 l2 l3 m2 m3 z0 z1 z2 z3
      go_loopw [8] (fun cv wq => ∃ k : Nat, cv = .int .i64 k ∧ k ≤ n5 ∧ Hid (∀ j (h : j < xns.length) (h' : j < yns.length), j < k → xns[j] = yns[j]) ∧ Hid (Below w7.heap.size w7 wq)) (fun cv _ => n5 - (intOf cv).toNat)
      case atStart => exact ⟨0, rfl, Nat.zero_le _, ⟨fun j _ _ hj => absurd hj (Nat.not_lt_zero _)⟩, ⟨Below.refl _ _⟩⟩
      case round =>
        obtain ⟨k, rfl, hk, HPK, BQ⟩ := hrel
        obtain ⟨m2, m3⟩ := HM.out _ BQ.out
        by_cases hlk : k < n5
        case neg =>
          obtain rfl : k = n5 := by omega
          have HD : Hid (SameD n2 ⟨xk, xi, xns, xks⟩ ⟨xk, xi, yns, yks⟩) := ⟨⟨rfl, rfl, ⟨HL5.out.trans HL7.out.symm, fun j h h' => HPK.out j h h' (by have := HL5.out; have h2 : j < xns.length := h; omega)⟩, HKS.out.1 trivial⟩⟩
          go_wp2
          exact ⟨⟨i + 1, by go_num, by omega, ⟨fun j h1 h2 hj => (Nat.lt_succ_iff_lt_or_eq.1 hj).elim (HP.out j h1 h2) (fun e => (HE.out j h1 h2 e).2 HD.out)⟩, ⟨belowOn BB.out (belowOn HB7.out BQ.out)⟩⟩, by simp [intOf]; omega⟩
        case pos =>
        have hlk' : (k : Int) < n5 := by omega
        have kx : k < xns.length := by rw [HL5.out]; exact hlk
        have ky : k < yns.length := by rw [HL7.out]; exact hlk
        obtain ⟨gx, fx, rfl, cx⟩ := (HA1.out.later (belowOn HB7.out BQ.out)).get k kx
        obtain ⟨gy, fy, rfl, cy⟩ := (HA3.out.later (belowOn HB7.out BQ.out)).get k ky
        have HEK : Hid (∀ j (h : j < xns.length) (h' : j < yns.length), j = k → (xns[j] = yns[j] ↔ xns[k] = yns[k])) := ⟨fun j h h' e => by subst e; rfl⟩
        generalize xns[k] = x at cx HEK
        generalize yns[k] = y at cy HEK
        by_cases hz : x = y
        · have hz' : Hid (x = y) := ⟨hz⟩
          have en : (x != y) = false := by simp [hz]
          clear hz
          go_wp2
          go_quiet (fail)
          go_wp2
          exact ⟨⟨k + 1, by go_num, by omega, ⟨fun j h1 h2 hj => (Nat.lt_succ_iff_lt_or_eq.1 hj).elim (HPK.out j h1 h2) (fun e => (HEK.out j h1 h2 e).2 hz'.out)⟩, ⟨below_drewN BQ.out _⟩⟩, by simp [intOf]; omega⟩
        · have hz' : Hid (¬ x = y) := ⟨hz⟩
          have en : (x != y) = true := by simpa using hz
          clear hz
          go_wp2
          go_quiet (fail)
          go_wp2
          go_ret
          exact ⟨⟨false, rfl, ⟨fun h => (by cases h), fun h => absurd ((HEK.out k kx ky rfl).1 (((HE.out i kl kr rfl).1 (((SameG.iff HN.out).1 h).2.2 i kl kr)).ns.2 k kx ky)) hz'.out⟩⟩, belowOn HB0.out (belowOn BB.out (belowOn HB7.out (below_drewN BQ.out _)))⟩
end Go.Proofs.Ytncimddgkgclpaa
