/- The way's field and ring. -/
import Derived.Test.YtncimddgkgclpaaWya
namespace Go.Proofs.Ytncimddgkgclpaa
open Go.RowKit
set_option linter.unusedVariables false
set_option linter.unusedSimpArgs false
set_option maxRecDepth 100000

/-- a node's other words are words -/
def OkN (x : Nd) : Prop := ∀ j ∈ x.ns, 0 ≤ j ∧ j < 18446744073709551616
section
variable {w0 w w' : World} {wb eb sb ca : Nat} {g : List Nd} {a : Option Addr} {E S : Nat → Int} {v : Value} {P : List (Nat × Bool)}
set_option maxHeartbeats 4000000 in
theorem field43 (h : Wy w0 w wb eb sb g a ca E S v P) {s c : Nat} (hs : s < g.length) (hc : c < g.length) (ok : OkN (nd0 g s)) :
    Calls Try.prog 43 #[pt wb, .int .i64 s, .int .i64 c] w fun e w' => e = .returned (.int .i64 (oI (fdO g.length (nd0 g s) (nd0 g c)))) ∧ Below w.heap.size w w' := by
  obtain ⟨q, off, o1, c1, o2, c2, rfl, p1, p2, x0, x1, x2, x3⟩ := h.nd hs
  obtain ⟨q', off', o3, c3, o4, c4, e, p3, p4, y0, y1, y2, y3⟩ := h.nd hc
  simp only [Option.some.injEq, Addr.mk.injEq, and_true] at e
  obtain ⟨rfl, rfl⟩ := e
  have c0 := h.c0
  have hcap := h.cap
  have KD := fun (i : Nat) (hi : i < 18446744073709551616) (W : World) (b : Below w.heap.size w W) => kid49 (nd0 g c) i o3 o4 c3 c4 wb g.length ca _ W (cellLater b c0) (p4.later b) hi
  obtain ⟨m, hm⟩ : ∃ m, g.length = m := ⟨_, rfl⟩
  rw [hm] at KD hcap c0 hs hc ⊢
  unfold nv at KD
  have hk := hcap.1
  have hl := hcap.2
  unfold maxLen at hl
  clear h
  generalize nd0 g s = x at *
  generalize nd0 g c = y at *
  obtain ⟨xk, xi, xns, xks⟩ := x
  obtain ⟨yk, yi, yns, yks⟩ := y
  dsimp only at *
  obtain ⟨n1, h1⟩ : ∃ n, xns.length = n := ⟨_, rfl⟩
  obtain ⟨n2, h2⟩ : ∃ n, xks.length = n := ⟨_, rfl⟩
  obtain ⟨n3, h3⟩ : ∃ n, yns.length = n := ⟨_, rfl⟩
  obtain ⟨n4, h4⟩ : ∃ n, yks.length = n := ⟨_, rfl⟩
  have hcx := p1.cap
  have hnl := p1.len
  unfold maxLen at hnl
  rw [h3, h4] at KD
  rw [h1] at x2 hcx hnl
  rw [h2] at x3
  rw [h3] at y2
  rw [h4] at y3
  have HN1 := Hid.mk h1
  have HP1 := Hid.mk p1
  have HKD := Hid.mk KD
  have HOK := Hid.mk ok
  have hs' : (s : Int) < m := by omega
  have hc' : (c : Int) < m := by omega
  have ne1 : ((c : Int) == -1) = false := by simp
  have cb := c0
  clear p1 p2 p3 p4 KD h1 h2 h3 h4 hcap hm ok
  go_enter Try.func43, Try.ntmps43
  go_wp2
  go_region_held3 (fun W' => W'.cell? ⟨wb, 0, none⟩ = some (.slice (some ⟨q, off, none⟩) m ca) ∧ W'.cell? ⟨q, off + s * 4, none⟩ = some (.int .i64 xk) ∧ W'.cell? ⟨q, off + s * 4 + 1, none⟩ = some (.int .i64 xi) ∧ W'.cell? ⟨q, off + s * 4 + 2, none⟩ = some (.slice o1 n1 c1) ∧ W'.cell? ⟨q, off + s * 4 + 3, none⟩ = some (.slice o2 n2 c2) ∧ W'.cell? ⟨q, off + c * 4, none⟩ = some (.int .i64 yk) ∧ W'.cell? ⟨q, off + c * 4 + 1, none⟩ = some (.int .i64 yi) ∧ W'.cell? ⟨q, off + c * 4 + 2, none⟩ = some (.slice o3 n3 c3) ∧ W'.cell? ⟨q, off + c * 4 + 3, none⟩ = some (.slice o4 n4 c4)) (go_keep) (fail)
  · have B6 : Below w.heap.size w ((w.alloc (.cells #[.int .i64 xk, .int .i64 xi, .slice o1 n1 c1, .slice o2 n2 c2] 34)).alloc (.cells #[.int .i64 yk, .int .i64 yi, .slice o3 n3 c3, .slice o4 n4 c4] 34)).drew := Below.drew (by go_grown)
    have k0 : ((w.alloc (.cells #[.int .i64 xk, .int .i64 xi, .slice o1 n1 c1, .slice o2 n2 c2] 34)).alloc (.cells #[.int .i64 yk, .int .i64 yi, .slice o3 n3 c3, .slice o4 n4 c4] 34)).drew.cell? ⟨w.heap.size, 0, none⟩ = some (.int .i64 xk) := by simp [go_sem]
    have k1 : ((w.alloc (.cells #[.int .i64 xk, .int .i64 xi, .slice o1 n1 c1, .slice o2 n2 c2] 34)).alloc (.cells #[.int .i64 yk, .int .i64 yi, .slice o3 n3 c3, .slice o4 n4 c4] 34)).drew.cell? ⟨w.heap.size, 1, none⟩ = some (.int .i64 xi) := by simp [go_sem]
    have k2 : ((w.alloc (.cells #[.int .i64 xk, .int .i64 xi, .slice o1 n1 c1, .slice o2 n2 c2] 34)).alloc (.cells #[.int .i64 yk, .int .i64 yi, .slice o3 n3 c3, .slice o4 n4 c4] 34)).drew.cell? ⟨w.heap.size, 2, none⟩ = some (.slice o1 n1 c1) := by simp [go_sem]
    have k3 : ((w.alloc (.cells #[.int .i64 xk, .int .i64 xi, .slice o1 n1 c1, .slice o2 n2 c2] 34)).alloc (.cells #[.int .i64 yk, .int .i64 yi, .slice o3 n3 c3, .slice o4 n4 c4] 34)).drew.cell? ⟨w.heap.size, 3, none⟩ = some (.slice o2 n2 c2) := by simp [go_sem]
    have l0 : ((w.alloc (.cells #[.int .i64 xk, .int .i64 xi, .slice o1 n1 c1, .slice o2 n2 c2] 34)).alloc (.cells #[.int .i64 yk, .int .i64 yi, .slice o3 n3 c3, .slice o4 n4 c4] 34)).drew.cell? ⟨w.heap.size + 1, 0, none⟩ = some (.int .i64 yk) := by simp [go_sem]
    have l1 : ((w.alloc (.cells #[.int .i64 xk, .int .i64 xi, .slice o1 n1 c1, .slice o2 n2 c2] 34)).alloc (.cells #[.int .i64 yk, .int .i64 yi, .slice o3 n3 c3, .slice o4 n4 c4] 34)).drew.cell? ⟨w.heap.size + 1, 1, none⟩ = some (.int .i64 yi) := by simp [go_sem]
    have l2 : ((w.alloc (.cells #[.int .i64 xk, .int .i64 xi, .slice o1 n1 c1, .slice o2 n2 c2] 34)).alloc (.cells #[.int .i64 yk, .int .i64 yi, .slice o3 n3 c3, .slice o4 n4 c4] 34)).drew.cell? ⟨w.heap.size + 1, 2, none⟩ = some (.slice o3 n3 c3) := by simp [go_sem]
    have l3 : ((w.alloc (.cells #[.int .i64 xk, .int .i64 xi, .slice o1 n1 c1, .slice o2 n2 c2] 34)).alloc (.cells #[.int .i64 yk, .int .i64 yi, .slice o3 n3 c3, .slice o4 n4 c4] 34)).drew.cell? ⟨w.heap.size + 1, 3, none⟩ = some (.slice o4 n4 c4) := by simp [go_sem]
    generalize ((w.alloc (.cells #[.int .i64 xk, .int .i64 xi, .slice o1 n1 c1, .slice o2 n2 c2] 34)).alloc (.cells #[.int .i64 yk, .int .i64 yi, .slice o3 n3 c3, .slice o4 n4 c4] 34)).drew = W6 at *
    have HB6 := Hid.mk B6
    clear B6 x0 x1 x2 x3 y0 y1 y2 y3
    by_cases z1 : n1 = 0
    · have e : fdO m ⟨xk, xi, xns, xks⟩ ⟨yk, yi, yns, yks⟩ = none := by
        have : xns = [] := List.eq_nil_of_length_eq_zero (HN1.out.trans z1)
        subst this
        rfl
      have HE := Hid.mk e
      have g1 : ((n1 : Int) == 0) = true := by simpa using z1
      clear z1 e
      go_wp2
      go_ret
      exact ⟨by rw [HE.out]; rfl, HB6.out⟩
    have g1 : ((n1 : Int) == 0) = false := by simp; omega
    obtain ⟨j, ns', ens⟩ : ∃ j ns', xns = j :: ns' := by
      match xns, HN1.out with
      | [], h => exact absurd h.symm z1
      | j :: ns', _ => exact ⟨j, ns', rfl⟩
    subst ens
    by_cases z2 : yk = 1
    case neg =>
      have e : fdO m ⟨xk, xi, j :: ns', xks⟩ ⟨yk, yi, yns, yks⟩ = none := by
        unfold fdO
        exact if_neg (fun q => z2 q.1)
      have HE := Hid.mk e
      have g2 : (yk != 1) = true := by simpa using z2
      clear z1 z2 e
      go_wp2
      go_ret
      exact ⟨by rw [HE.out]; rfl, HB6.out⟩
    case pos =>
    subst z2
    by_cases z3 : yi = xi
    case neg =>
      have e : fdO m ⟨xk, xi, j :: ns', xks⟩ ⟨1, yi, yns, yks⟩ = none := by
        unfold fdO
        exact if_neg (fun q => z3 q.2)
      have HE := Hid.mk e
      have g3 : (yi != xi) = true := by simpa using z3
      clear z1 z3 e
      go_wp2
      go_ret
      exact ⟨by rw [HE.out]; rfl, HB6.out⟩
    case pos =>
    subst z3
    have g3 : (yi != yi) = false := by simp
    obtain ⟨J, eJ⟩ : ∃ J : Nat, j = J := ⟨j.toNat, by have := HOK.out j (by simp); omega⟩
    have hJ : J < 18446744073709551616 := by have := HOK.out j (by simp); omega
    have e : fdO m ⟨xk, yi, j :: ns', xks⟩ ⟨1, yi, yns, yks⟩ = kdO m ⟨1, yi, yns, yks⟩ J := by
      unfold fdO
      simp [eJ]
    have HE := Hid.mk e
    obtain ⟨gx, fx, rfl, cx⟩ := (HP1.out.later HB6.out).get 0 (by rw [HN1.out]; omega)
    have cx' : W6.cell? ⟨gx, fx, none⟩ = some (.int .u64 j) := cx
    have KJ := HKD.out J hJ
    have HS := Hid.mk (fun (W' : World) (b : Below W6.heap.size W6 W') => And.intro (cellLater b k0) (And.intro (cellLater b k1) (And.intro (cellLater b k2) (And.intro (cellLater b k3) (And.intro (cellLater b l0) (And.intro (cellLater b l1) (And.intro (cellLater b l2) (And.intro (cellLater b l3) (cellLater b cx')))))))))
    have HX : Hid (Below W6.heap.size W6 W6.drew) := ⟨(Below.refl _ _).drew⟩
    rw [← eJ] at KJ
    have zp : 0 < n1 := by omega
    clear cx e z1 eJ
    obtain ⟨r, hr⟩ : ∃ r, oI (kdO m ⟨1, yi, yns, yks⟩ J) = r := ⟨_, rfl⟩
    rw [hr] at KJ
    have HR := Hid.mk hr
    clear hr
    go_wp2
    go_region_held3 (fun W' => W'.cell? ⟨w.heap.size, 0, none⟩ = some (.int .i64 xk) ∧ W'.cell? ⟨w.heap.size, 1, none⟩ = some (.int .i64 yi) ∧ W'.cell? ⟨w.heap.size, 2, none⟩ = some (.slice (some ⟨gx, fx, none⟩) n1 c1) ∧ W'.cell? ⟨w.heap.size, 3, none⟩ = some (.slice o2 n2 c2) ∧ W'.cell? ⟨w.heap.size + 1, 0, none⟩ = some (.int .i64 1) ∧ W'.cell? ⟨w.heap.size + 1, 1, none⟩ = some (.int .i64 yi) ∧ W'.cell? ⟨w.heap.size + 1, 2, none⟩ = some (.slice o3 n3 c3) ∧ W'.cell? ⟨w.heap.size + 1, 3, none⟩ = some (.slice o4 n4 c4) ∧ W'.cell? ⟨gx, fx, none⟩ = some (.int .u64 j)) (go_keep) (first | (go_at_call 49; refine (KJ _ (belowOn HB6.out HX.out)).mono ?_; rintro e w7 ⟨rfl, B7⟩; replace HX := Hid.mk (belowOn HX.out B7); obtain ⟨q0, q1, q2, q3, q4, q5, q6, q7, q8⟩ := HS.out _ HX.out))
    all_goals go_wp2
    all_goals go_ret
    all_goals exact ⟨by rw [HE.out, HR.out]; rfl, belowOn HB6.out HX.out⟩
  · have B6 : Below w.heap.size w ((w.alloc (.cells #[.int .i64 yk, .int .i64 yi, .slice o3 n3 c3, .slice o4 n4 c4] 34)).alloc (.cells #[.int .i64 xk, .int .i64 xi, .slice o1 n1 c1, .slice o2 n2 c2] 34)).drew := Below.drew (by go_grown)
    have k0 : ((w.alloc (.cells #[.int .i64 yk, .int .i64 yi, .slice o3 n3 c3, .slice o4 n4 c4] 34)).alloc (.cells #[.int .i64 xk, .int .i64 xi, .slice o1 n1 c1, .slice o2 n2 c2] 34)).drew.cell? ⟨w.heap.size + 1, 0, none⟩ = some (.int .i64 xk) := by simp [go_sem]
    have k1 : ((w.alloc (.cells #[.int .i64 yk, .int .i64 yi, .slice o3 n3 c3, .slice o4 n4 c4] 34)).alloc (.cells #[.int .i64 xk, .int .i64 xi, .slice o1 n1 c1, .slice o2 n2 c2] 34)).drew.cell? ⟨w.heap.size + 1, 1, none⟩ = some (.int .i64 xi) := by simp [go_sem]
    have k2 : ((w.alloc (.cells #[.int .i64 yk, .int .i64 yi, .slice o3 n3 c3, .slice o4 n4 c4] 34)).alloc (.cells #[.int .i64 xk, .int .i64 xi, .slice o1 n1 c1, .slice o2 n2 c2] 34)).drew.cell? ⟨w.heap.size + 1, 2, none⟩ = some (.slice o1 n1 c1) := by simp [go_sem]
    have k3 : ((w.alloc (.cells #[.int .i64 yk, .int .i64 yi, .slice o3 n3 c3, .slice o4 n4 c4] 34)).alloc (.cells #[.int .i64 xk, .int .i64 xi, .slice o1 n1 c1, .slice o2 n2 c2] 34)).drew.cell? ⟨w.heap.size + 1, 3, none⟩ = some (.slice o2 n2 c2) := by simp [go_sem]
    have l0 : ((w.alloc (.cells #[.int .i64 yk, .int .i64 yi, .slice o3 n3 c3, .slice o4 n4 c4] 34)).alloc (.cells #[.int .i64 xk, .int .i64 xi, .slice o1 n1 c1, .slice o2 n2 c2] 34)).drew.cell? ⟨w.heap.size, 0, none⟩ = some (.int .i64 yk) := by simp [go_sem]
    have l1 : ((w.alloc (.cells #[.int .i64 yk, .int .i64 yi, .slice o3 n3 c3, .slice o4 n4 c4] 34)).alloc (.cells #[.int .i64 xk, .int .i64 xi, .slice o1 n1 c1, .slice o2 n2 c2] 34)).drew.cell? ⟨w.heap.size, 1, none⟩ = some (.int .i64 yi) := by simp [go_sem]
    have l2 : ((w.alloc (.cells #[.int .i64 yk, .int .i64 yi, .slice o3 n3 c3, .slice o4 n4 c4] 34)).alloc (.cells #[.int .i64 xk, .int .i64 xi, .slice o1 n1 c1, .slice o2 n2 c2] 34)).drew.cell? ⟨w.heap.size, 2, none⟩ = some (.slice o3 n3 c3) := by simp [go_sem]
    have l3 : ((w.alloc (.cells #[.int .i64 yk, .int .i64 yi, .slice o3 n3 c3, .slice o4 n4 c4] 34)).alloc (.cells #[.int .i64 xk, .int .i64 xi, .slice o1 n1 c1, .slice o2 n2 c2] 34)).drew.cell? ⟨w.heap.size, 3, none⟩ = some (.slice o4 n4 c4) := by simp [go_sem]
    generalize ((w.alloc (.cells #[.int .i64 yk, .int .i64 yi, .slice o3 n3 c3, .slice o4 n4 c4] 34)).alloc (.cells #[.int .i64 xk, .int .i64 xi, .slice o1 n1 c1, .slice o2 n2 c2] 34)).drew = W6 at *
    have HB6 := Hid.mk B6
    clear B6 x0 x1 x2 x3 y0 y1 y2 y3
    by_cases z1 : n1 = 0
    · have e : fdO m ⟨xk, xi, xns, xks⟩ ⟨yk, yi, yns, yks⟩ = none := by
        have : xns = [] := List.eq_nil_of_length_eq_zero (HN1.out.trans z1)
        subst this
        rfl
      have HE := Hid.mk e
      have g1 : ((n1 : Int) == 0) = true := by simpa using z1
      clear z1 e
      go_wp2
      go_ret
      exact ⟨by rw [HE.out]; rfl, HB6.out⟩
    have g1 : ((n1 : Int) == 0) = false := by simp; omega
    obtain ⟨j, ns', ens⟩ : ∃ j ns', xns = j :: ns' := by
      match xns, HN1.out with
      | [], h => exact absurd h.symm z1
      | j :: ns', _ => exact ⟨j, ns', rfl⟩
    subst ens
    by_cases z2 : yk = 1
    case neg =>
      have e : fdO m ⟨xk, xi, j :: ns', xks⟩ ⟨yk, yi, yns, yks⟩ = none := by
        unfold fdO
        exact if_neg (fun q => z2 q.1)
      have HE := Hid.mk e
      have g2 : (yk != 1) = true := by simpa using z2
      clear z1 z2 e
      go_wp2
      go_ret
      exact ⟨by rw [HE.out]; rfl, HB6.out⟩
    case pos =>
    subst z2
    by_cases z3 : yi = xi
    case neg =>
      have e : fdO m ⟨xk, xi, j :: ns', xks⟩ ⟨1, yi, yns, yks⟩ = none := by
        unfold fdO
        exact if_neg (fun q => z3 q.2)
      have HE := Hid.mk e
      have g3 : (yi != xi) = true := by simpa using z3
      clear z1 z3 e
      go_wp2
      go_ret
      exact ⟨by rw [HE.out]; rfl, HB6.out⟩
    case pos =>
    subst z3
    have g3 : (yi != yi) = false := by simp
    obtain ⟨J, eJ⟩ : ∃ J : Nat, j = J := ⟨j.toNat, by have := HOK.out j (by simp); omega⟩
    have hJ : J < 18446744073709551616 := by have := HOK.out j (by simp); omega
    have e : fdO m ⟨xk, yi, j :: ns', xks⟩ ⟨1, yi, yns, yks⟩ = kdO m ⟨1, yi, yns, yks⟩ J := by
      unfold fdO
      simp [eJ]
    have HE := Hid.mk e
    obtain ⟨gx, fx, rfl, cx⟩ := (HP1.out.later HB6.out).get 0 (by rw [HN1.out]; omega)
    have cx' : W6.cell? ⟨gx, fx, none⟩ = some (.int .u64 j) := cx
    have KJ := HKD.out J hJ
    have HS := Hid.mk (fun (W' : World) (b : Below W6.heap.size W6 W') => And.intro (cellLater b k0) (And.intro (cellLater b k1) (And.intro (cellLater b k2) (And.intro (cellLater b k3) (And.intro (cellLater b l0) (And.intro (cellLater b l1) (And.intro (cellLater b l2) (And.intro (cellLater b l3) (cellLater b cx')))))))))
    have HX : Hid (Below W6.heap.size W6 W6.drew) := ⟨(Below.refl _ _).drew⟩
    rw [← eJ] at KJ
    have zp : 0 < n1 := by omega
    clear cx e z1 eJ
    obtain ⟨r, hr⟩ : ∃ r, oI (kdO m ⟨1, yi, yns, yks⟩ J) = r := ⟨_, rfl⟩
    rw [hr] at KJ
    have HR := Hid.mk hr
    clear hr
    go_wp2
    go_region_held3 (fun W' => W'.cell? ⟨w.heap.size + 1, 0, none⟩ = some (.int .i64 xk) ∧ W'.cell? ⟨w.heap.size + 1, 1, none⟩ = some (.int .i64 yi) ∧ W'.cell? ⟨w.heap.size + 1, 2, none⟩ = some (.slice (some ⟨gx, fx, none⟩) n1 c1) ∧ W'.cell? ⟨w.heap.size + 1, 3, none⟩ = some (.slice o2 n2 c2) ∧ W'.cell? ⟨w.heap.size, 0, none⟩ = some (.int .i64 1) ∧ W'.cell? ⟨w.heap.size, 1, none⟩ = some (.int .i64 yi) ∧ W'.cell? ⟨w.heap.size, 2, none⟩ = some (.slice o3 n3 c3) ∧ W'.cell? ⟨w.heap.size, 3, none⟩ = some (.slice o4 n4 c4) ∧ W'.cell? ⟨gx, fx, none⟩ = some (.int .u64 j)) (go_keep) (first | (go_at_call 49; refine (KJ _ (belowOn HB6.out HX.out)).mono ?_; rintro e w7 ⟨rfl, B7⟩; replace HX := Hid.mk (belowOn HX.out B7); obtain ⟨q0, q1, q2, q3, q4, q5, q6, q7, q8⟩ := HS.out _ HX.out))
    all_goals go_wp2
    all_goals go_ret
    all_goals exact ⟨by rw [HE.out, HR.out]; rfl, belowOn HB6.out HX.out⟩

end
end Go.Proofs.Ytncimddgkgclpaa
