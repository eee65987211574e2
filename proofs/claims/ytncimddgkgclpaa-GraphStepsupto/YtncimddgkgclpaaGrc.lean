/- The program's Same, of nodes and of graphs. -/
import Derived.Test.YtncimddgkgclpaaGrb
namespace Go.Proofs.Ytncimddgkgclpaa
open Go.RowKit
set_option linter.unusedVariables false
set_option linter.unusedSimpArgs false
set_option maxRecDepth 100000

set_option maxHeartbeats 2000000 in
theorem f33_any (x y : Nd) (o1 o2 p1 p2 : Option Addr) (c1 c2 d1 d2 m bm bf : Nat) (w : World) (A1 : PS .u64 w o1 c1 x.ns) (A2 : PS .i64 w o2 c2 x.ks) (B1 : PS .u64 w p1 d1 y.ns) (B2 : PS .i64 w p2 d2 y.ks)
    (cm : w.cell? ⟨bm, 0, none⟩ = some (.int .i64 m)) (cf : w.cell? ⟨bf, 0, none⟩ = some (.func (.func 29) #[] #[pt bm])) :
    Calls Try.prog 33 #[nv x o1 c1 o2 c2, nv y p1 d1 p2 d2, pt bf] w fun e w' => (∃ b, e = .returned (.bool b) ∧ (b = true ↔ SameD m x y)) ∧ Below w.heap.size w w' := by
  unfold nv
  obtain ⟨xk, xi, xns, xks⟩ := x
  obtain ⟨yk, yi, yns, yks⟩ := y
  dsimp only at *
  obtain ⟨n1, h1⟩ : ∃ n, xns.length = n := ⟨_, rfl⟩
  obtain ⟨n2, h2⟩ : ∃ n, xks.length = n := ⟨_, rfl⟩
  obtain ⟨n3, h3⟩ : ∃ n, yns.length = n := ⟨_, rfl⟩
  obtain ⟨n4, h4⟩ : ∃ n, yks.length = n := ⟨_, rfl⟩
  have CE := fun (W : World) (b : Below w.heap.size w W) => eq34 xns yns o1 p1 c1 d1 W (A1.later b) (B1.later b)
  have CN := fun (W : World) (b : Below w.heap.size w W) => f29_any xks yks o2 p2 c2 d2 m bm W (A2.later b) (B2.later b) (cellLater b cm)
  rw [h1, h3] at CE
  rw [h2, h4] at CN
  have HCE := Hid.mk CE
  have HCN := Hid.mk CN
  rw [h1, h2, h3, h4]
  clear A1 A2 B1 B2 CE CN h1 h2 h3 h4
  have B0 : Below w.heap.size w ((w.alloc (Obj.cells #[.int .i64 xk, .int .i64 xi, .slice o1 n1 c1, .slice o2 n2 c2] 34)).alloc (Obj.cells #[.int .i64 yk, .int .i64 yi, .slice p1 n3 d1, .slice p2 n4 d2] 34)) := by go_grown
  have cf1 := cellLater B0 cf
  have HB0 := Hid.mk B0
  have dx : ((w.alloc (Obj.cells #[.int .i64 xk, .int .i64 xi, .slice o1 n1 c1, .slice o2 n2 c2] 34)).alloc (Obj.cells #[.int .i64 yk, .int .i64 yi, .slice p1 n3 d1, .slice p2 n4 d2] 34)).cell? ⟨w.heap.size, 3, none⟩ = some (.slice o2 n2 c2) := by go_cell
  have dy : ((w.alloc (Obj.cells #[.int .i64 xk, .int .i64 xi, .slice o1 n1 c1, .slice o2 n2 c2] 34)).alloc (Obj.cells #[.int .i64 yk, .int .i64 yi, .slice p1 n3 d1, .slice p2 n4 d2] 34)).cell? ⟨w.heap.size + 1, 3, none⟩ = some (.slice p2 n4 d2) := by go_cell
  clear B0
  by_cases e1 : xk = yk
  · by_cases e2 : xi = yi
    · subst e1 e2
      have g1 : (xk == xk) = true := by simp
      have g2 : (xi == xi) = true := by simp
      have CE := HCE.out _ HB0.out
      go_enter Try.func33, Try.ntmps33
      go_wp2_with (first | (go_at_call 34; refine CE.mono ?_; clear CE; rintro e w1 ⟨⟨b1, rfl, hb1⟩, B1⟩; have HB := Hid.mk hb1; clear hb1; have CN := HCN.out _ (belowOn HB0.out B1); have cf2 := cellLater B1 cf1; have dx1 := cellLater B1 dx; have dy1 := cellLater B1 dy; cases b1) | (go_at_call 29; refine CN.mono ?_; clear CN; rintro e w2 ⟨⟨b2, rfl, hb2⟩, B2⟩; have HN := Hid.mk hb2; clear hb2))
      · go_ret
        exact ⟨⟨false, rfl, ⟨fun h => (by cases h), fun h => absurd (HB.out.2 h.ns) (by simp)⟩⟩, belowOn HB0.out B1⟩
      · go_ret
        exact ⟨⟨b2, rfl, ⟨fun h => ⟨rfl, rfl, HB.out.1 trivial, HN.out.1 h⟩, fun h => HN.out.2 h.ks⟩⟩, belowOn HB0.out (belowOn B1 B2)⟩
    · have g1 : (xk == yk) = true := by simp [e1]
      have g2 : (xi == yi) = false := by simpa using e2
      have HE := Hid.mk e2
      clear e1 e2
      go_enter Try.func33, Try.ntmps33
      go_wp2
      go_ret
      exact ⟨⟨false, rfl, ⟨fun h => (by cases h), fun h => absurd h.i HE.out⟩⟩, HB0.out⟩
  · have g1 : (xk == yk) = false := by simpa using e1
    have HE := Hid.mk e1
    clear e1
    go_enter Try.func33, Try.ntmps33
    go_wp2
    go_ret
    exact ⟨⟨false, rfl, ⟨fun h => (by cases h), fun h => absurd h.k HE.out⟩⟩, HB0.out⟩

/-- the node's fresh copy -/
theorem nd_fresh {w : World} {v0 v1 v2 v3 : Value} : (w.alloc (.cells #[v0, v1, v2, v3] 34)).cell? ⟨w.heap.size, 0, none⟩ = some v0 ∧ (w.alloc (.cells #[v0, v1, v2, v3] 34)).cell? ⟨w.heap.size, 1, none⟩ = some v1 ∧ (w.alloc (.cells #[v0, v1, v2, v3] 34)).cell? ⟨w.heap.size, 2, none⟩ = some v2 ∧ (w.alloc (.cells #[v0, v1, v2, v3] 34)).cell? ⟨w.heap.size, 3, none⟩ = some v3 :=
  ⟨by simp [go_sem], by simp [go_sem], by simp [go_sem], by simp [go_sem]⟩
/-- rows of nodes are the same -/
def SameDs (m : Nat) (l r : List Nd) : Prop := l.length = r.length ∧ ∀ i (h : i < l.length) (h' : i < r.length), SameD m l[i] r[i]
set_option maxHeartbeats 4000000 in
theorem eqf32 (l r : List Nd) (a1 a2 : Option Addr) (c1 c2 m bm bf : Nat) (w : World) (P1 : Nds w l (.slice a1 l.length c1)) (P2 : Nds w r (.slice a2 r.length c2))
    (cm : w.cell? ⟨bm, 0, none⟩ = some (.int .i64 m)) (cf : w.cell? ⟨bf, 0, none⟩ = some (.func (.func 29) #[] #[pt bm])) :
    Calls Try.prog 32 #[.slice a1 l.length c1, .slice a2 r.length c2, .func (.func 33) #[] #[pt bf]] w fun e w' => (∃ b, e = .returned (.bool b) ∧ (b = true ↔ SameDs m l r)) ∧ Below w.heap.size w w' := by
  have H1 := Hid.mk P1
  have H2 := Hid.mk P2
  have HCm := Hid.mk cm
  have HCf := Hid.mk cf
  obtain ⟨_, _, q1, q2, _⟩ := P1
  obtain ⟨_, _, q3, q4, _⟩ := P2
  simp only [Value.slice.injEq] at q1 q3
  obtain ⟨rfl, _, rfl⟩ := q1
  obtain ⟨rfl, _, rfl⟩ := q3
  have hc1 := q2.1
  have hc2 := q2.2
  have hc3 := q4.1
  clear q2 q4 cm cf
  unfold maxLen at hc2
  obtain ⟨n, hn⟩ : ∃ n, l.length = n := ⟨_, rfl⟩
  obtain ⟨n2, hn2⟩ : ∃ n, r.length = n := ⟨_, rfl⟩
  have HN := Hid.mk hn
  have HN2 := Hid.mk hn2
  have HL := Hid.mk (show l.length = r.length ↔ n = n2 by rw [hn, hn2])
  rw [hn, hn2]
  rw [hn] at hc1 hc2
  rw [hn2] at hc3
  clear hn hn2
  by_cases hh : n = n2
  · subst hh
    have e0 : ((n : Int) != n) = false := by simp
    go_enter Try.func32, Try.ntmps32
    go_wp2
    go_loopw [17] (fun cv wr => ∃ i : Nat, cv = .int .i64 i ∧ i ≤ n ∧ Hid (∀ j (h : j < l.length) (h' : j < r.length), j < i → SameD m l[j] r[j]) ∧ Hid (Below w.heap.size w wr)) (fun cv _ => n - (intOf cv).toNat)
    case atStart => exact ⟨0, rfl, Nat.zero_le _, ⟨fun j _ _ hj => absurd hj (Nat.not_lt_zero _)⟩, ⟨Below.refl _ _⟩⟩
    case round =>
      obtain ⟨i, rfl, hi, HP, BB⟩ := hrel
      by_cases hlt : i < n
      · have hlt' : (i : Int) < n := by omega
        have kl : i < l.length := by rw [HN.out]; exact hlt
        have kr : i < r.length := by rw [HN2.out]; exact hlt
        obtain ⟨g1, f1, _, x, ex, _, _, px, hx⟩ := (Nds.later H1.out BB.out).get i kl
        obtain ⟨g2, f2, _, y, ey, _, _, py, hy⟩ := (Nds.later H2.out BB.out).get i kr
        simp only [Value.slice.injEq] at ex ey
        obtain ⟨rfl, _, rfl⟩ := ex
        obtain ⟨rfl, _, rfl⟩ := ey
        have HE : Hid (∀ j (h : j < l.length) (h' : j < r.length), j = i → (SameD m l[j] r[j] ↔ SameD m l[i] r[i])) := ⟨fun j h h' e => by subst e; rfl⟩
        generalize l[i] = X at px HE
        generalize r[i] = Y at py HE
        obtain ⟨xk, xi, xns, xks⟩ := X
        obtain ⟨yk, yi, yns, yks⟩ := Y
        obtain ⟨o1, x1, o2, x2, rfl, A1, A2⟩ := px
        obtain ⟨p1, y1, p2, y2, rfl, B1, B2⟩ := py
        dsimp only at A1 A2 B1 B2 hx hy
        have CF := fun (W : World) (b : Below wr.heap.size wr W) => f33_any ⟨xk, xi, xns, xks⟩ ⟨yk, yi, yns, yks⟩ o1 o2 p1 p2 x1 x2 y1 y2 m bm bf W (A1.later b) (A2.later b) (B1.later b) (B2.later b) (cellLater (belowOn BB.out b) HCm.out) (cellLater (belowOn BB.out b) HCf.out)
        unfold nv at CF
        dsimp only at CF
        obtain ⟨n3, h3⟩ : ∃ n, xns.length = n := ⟨_, rfl⟩
        obtain ⟨n4, h4⟩ : ∃ n, xks.length = n := ⟨_, rfl⟩
        obtain ⟨n5, h5⟩ : ∃ n, yns.length = n := ⟨_, rfl⟩
        obtain ⟨n6, h6⟩ : ∃ n, yks.length = n := ⟨_, rfl⟩
        rw [h3, h4, h5, h6] at CF
        rw [h3, h4] at hx
        rw [h5, h6] at hy
        clear h3 h4 h5 h6 A1 A2 B1 B2
        have a0 : wr.cell? ⟨g1, f1 + i * 4, none⟩ = some (.int .i64 xk) := hx 0 _ rfl
        have a1 : wr.cell? ⟨g1, f1 + i * 4 + 1, none⟩ = some (.int .i64 xi) := hx 1 _ rfl
        have a2 : wr.cell? ⟨g1, f1 + i * 4 + 2, none⟩ = some (.slice o1 n3 x1) := hx 2 _ rfl
        have a3 : wr.cell? ⟨g1, f1 + i * 4 + 3, none⟩ = some (.slice o2 n4 x2) := hx 3 _ rfl
        have BX : Below wr.heap.size wr (wr.alloc (.cells #[.int .i64 xk, .int .i64 xi, .slice o1 n3 x1, .slice o2 n4 x2] 34)) := by go_grown
        have b0 := cellLater BX (show wr.cell? ⟨g2, f2 + i * 4, none⟩ = some (.int .i64 yk) from hy 0 _ rfl)
        have b1 := cellLater BX (show wr.cell? ⟨g2, f2 + i * 4 + 1, none⟩ = some (.int .i64 yi) from hy 1 _ rfl)
        have b2 := cellLater BX (show wr.cell? ⟨g2, f2 + i * 4 + 2, none⟩ = some (.slice p1 n5 y1) from hy 2 _ rfl)
        have b3 := cellLater BX (show wr.cell? ⟨g2, f2 + i * 4 + 3, none⟩ = some (.slice p2 n6 y2) from hy 3 _ rfl)
        have BY : Below wr.heap.size wr ((wr.alloc (.cells #[.int .i64 xk, .int .i64 xi, .slice o1 n3 x1, .slice o2 n4 x2] 34)).alloc (.cells #[.int .i64 yk, .int .i64 yi, .slice p1 n5 y1, .slice p2 n6 y2] 34)) := by go_grown
        have CW := CF _ BY
        have HBY := Hid.mk BY
        clear hx hy BX BY CF
        go_wp2_with (go_at_call 33; refine CW.mono ?_; clear CW; rintro e w1 ⟨⟨b, rfl, hb⟩, B1⟩; have HB := Hid.mk hb; clear hb; cases b)
        · go_ret
          exact ⟨⟨false, rfl, ⟨fun h => (by cases h), fun h => absurd (HB.out.2 ((HE.out i kl kr rfl).1 (h.2 i kl kr))) (by simp)⟩⟩, belowOn BB.out (belowOn HBY.out B1)⟩
        · go_roundw
          case rel => exact ⟨i + 1, by go_num, by omega, ⟨fun j h1 h2 hj => (Nat.lt_succ_iff_lt_or_eq.1 hj).elim (HP.out j h1 h2) (fun e => (HE.out j h1 h2 e).2 (HB.out.1 trivial))⟩, ⟨belowOn BB.out (belowOn HBY.out B1)⟩⟩
          case measure => simp [intOf]; omega
      · obtain rfl : i = n := by omega
        go_wp2
        go_ret
        exact ⟨⟨true, rfl, ⟨fun _ => ⟨HN.out.trans HN2.out.symm, fun j h h' => HP.out j h h' (by have := HN.out; omega)⟩, fun _ => rfl⟩⟩, BB.out⟩
  · have e0 : ((n : Int) != n2) = true := by simp; omega
    have hh' := Hid.mk hh
    clear hh
    go_enter Try.func32, Try.ntmps32
    go_wp2
    go_ret
    exact ⟨⟨false, rfl, ⟨fun h => (by cases h), fun h => absurd (HN.out.symm.trans (h.1.trans HN2.out)) hh'.out⟩⟩, Below.refl _ _⟩

theorem SameG.iff {a c : List Int} {b d : List Nd} {m : Nat} (h : b.length = m) : SameG ⟨a, b⟩ ⟨c, d⟩ ↔ SameN m a c ∧ SameDs m b d := by
  subst h
  exact ⟨fun x => ⟨x.rs, x.len, x.nd⟩, fun x => ⟨x.1, x.2.1, x.2.2⟩⟩
set_option maxHeartbeats 4000000 in
/-- the program's Same -/
theorem same15 (g h : Gr) (o1 o2 a1 a2 : Option Addr) (c1 c2 d1 d2 : Nat) (w : World) (G : Gv w g o1 c1 a1 d1) (H : Gv w h o2 c2 a2 d2) :
    Calls Try.prog 15 #[gv g o1 c1 a1 d1, gv h o2 c2 a2 d2] w fun e w' => (∃ b, e = .returned (.bool b) ∧ (b = true ↔ SameG g h)) ∧ Below w.heap.size w w' := by
  unfold gv
  obtain ⟨grs, gnd⟩ := g
  obtain ⟨hrs, hnd⟩ := h
  obtain ⟨G1, G2⟩ := G
  obtain ⟨H1, H2⟩ := H
  dsimp only at *
  have C1 := fun (m : Nat) (W : World) (b : Below w.heap.size w W) (bm : Nat) (c : W.cell? ⟨bm, 0, none⟩ = some (.int .i64 m)) => f29_any grs hrs o1 o2 c1 c2 m bm W (G1.later b) (H1.later b) c
  have C2 := fun (m : Nat) (W : World) (b : Below w.heap.size w W) (bm bf : Nat) (c : W.cell? ⟨bm, 0, none⟩ = some (.int .i64 m)) (cf : W.cell? ⟨bf, 0, none⟩ = some (.func (.func 29) #[] #[pt bm])) => eqf32 gnd hnd a1 a2 d1 d2 m bm bf W (Nds.later G2 b) (Nds.later H2 b) c cf
  have hl : gnd.length ≤ 9223372036854775807 := by obtain ⟨_, _, _, q, _⟩ := G2; exact q.2
  obtain ⟨n1, e1⟩ : ∃ n, grs.length = n := ⟨_, rfl⟩
  obtain ⟨n2, e2⟩ : ∃ n, gnd.length = n := ⟨_, rfl⟩
  obtain ⟨n3, e3⟩ : ∃ n, hrs.length = n := ⟨_, rfl⟩
  obtain ⟨n4, e4⟩ : ∃ n, hnd.length = n := ⟨_, rfl⟩
  have HN := Hid.mk e2
  have HC1 := Hid.mk C1
  have HC2 := Hid.mk C2
  rw [e1, e3] at HC1
  rw [e2, e4] at HC2
  rw [e2] at hl
  rw [e1, e2, e3, e4]
  clear G1 G2 H1 H2 C1 C2 e1 e2 e3 e4
  have B4 : Below w.heap.size w ((((w.alloc (.cells #[.slice o1 n1 c1, .slice a1 n2 d1] 25)).alloc (.cells #[.slice o2 n3 c2, .slice a2 n4 d2] 25)).alloc (.cells #[.int .i64 n2] 3)).alloc (.cells #[.func (.func 29) #[] #[pt (w.heap.size + 2)]] 52)) := by go_grown
  have x0 : ((((w.alloc (.cells #[.slice o1 n1 c1, .slice a1 n2 d1] 25)).alloc (.cells #[.slice o2 n3 c2, .slice a2 n4 d2] 25)).alloc (.cells #[.int .i64 n2] 3)).alloc (.cells #[.func (.func 29) #[] #[pt (w.heap.size + 2)]] 52)).cell? ⟨w.heap.size + 2, 0, none⟩ = some (.int .i64 n2) := by simp [go_sem]
  have x1 : ((((w.alloc (.cells #[.slice o1 n1 c1, .slice a1 n2 d1] 25)).alloc (.cells #[.slice o2 n3 c2, .slice a2 n4 d2] 25)).alloc (.cells #[.int .i64 n2] 3)).alloc (.cells #[.func (.func 29) #[] #[pt (w.heap.size + 2)]] 52)).cell? ⟨w.heap.size + 3, 0, none⟩ = some (.func (.func 29) #[] #[pt (w.heap.size + 2)]) := by simp [go_sem]
  have x2 : ((((w.alloc (.cells #[.slice o1 n1 c1, .slice a1 n2 d1] 25)).alloc (.cells #[.slice o2 n3 c2, .slice a2 n4 d2] 25)).alloc (.cells #[.int .i64 n2] 3)).alloc (.cells #[.func (.func 29) #[] #[pt (w.heap.size + 2)]] 52)).cell? ⟨w.heap.size, 1, none⟩ = some (.slice a1 n2 d1) := by simp [go_sem]
  have x3 : ((((w.alloc (.cells #[.slice o1 n1 c1, .slice a1 n2 d1] 25)).alloc (.cells #[.slice o2 n3 c2, .slice a2 n4 d2] 25)).alloc (.cells #[.int .i64 n2] 3)).alloc (.cells #[.func (.func 29) #[] #[pt (w.heap.size + 2)]] 52)).cell? ⟨w.heap.size + 1, 1, none⟩ = some (.slice a2 n4 d2) := by simp [go_sem]
  have K1 := HC1.out n2 _ B4 _ x0
  have HB4 := Hid.mk B4
  clear B4
  go_enter Try.func15, Try.ntmps15
  go_wp2_with (first | (go_at_call 29; refine K1.mono ?_; clear K1; rintro e w1 ⟨⟨b, rfl, hb⟩, B1⟩; have HB := Hid.mk hb; clear hb; have K2 := HC2.out n2 _ (belowOn HB4.out B1) _ _ (cellLater B1 x0) (cellLater B1 x1); have y2 := cellLater B1 x2; have y3 := cellLater B1 x3; cases b) | (go_at_call 32; refine K2.mono ?_; clear K2; rintro e w2 ⟨⟨b2, rfl, hb2⟩, B2⟩; have HB2 := Hid.mk hb2; clear hb2))
  · go_ret
    exact ⟨⟨false, rfl, ⟨fun h => (by cases h), fun h => absurd (HB.out.2 ((SameG.iff HN.out).1 h).1) (by simp)⟩⟩, belowOn HB4.out B1⟩
  · go_ret
    exact ⟨⟨b2, rfl, ⟨fun h => (SameG.iff HN.out).2 ⟨HB.out.1 trivial, HB2.out.1 h⟩, fun h => HB2.out.2 ((SameG.iff HN.out).1 h).2⟩⟩, belowOn HB4.out (belowOn B1 B2)⟩
end Go.Proofs.Ytncimddgkgclpaa
