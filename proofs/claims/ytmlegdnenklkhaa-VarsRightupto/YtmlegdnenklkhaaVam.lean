/- Package vars: Free. -/
import Derived.Test.YtmlegdnenklkhaaVaj
import Derived.Test.YtmlegdnenklkhaaVal
namespace Go.Proofs.Ytmlegdnenklkhaa
open Go.RowKit
set_option linter.unusedVariables false
set_option linter.unusedSimpArgs false

theorem putN_ok (sc : Nm → Bool) {s : Nm} (hs : s.length ≤ maxLen) {fr : List Nm} (h : ∀ y ∈ fr, y.length ≤ maxLen) : ∀ y ∈ putN sc s fr, y.length ≤ maxLen := by
  intro y hy
  unfold putN at hy
  split at hy
  · exact h y hy
  · split at hy
    · exact h y hy
    · rcases List.mem_append.1 hy with e | e
      · exact h y e
      · rw [List.mem_singleton] at e; rw [e]; exact hs
theorem fvT_ok (sc : Nm → Bool) : ∀ (l : List Atm) (fr : List Nm), (∀ t ∈ l, t.name.length ≤ maxLen) → (∀ y ∈ fr, y.length ≤ maxLen) → ∀ y ∈ fvT sc l fr, y.length ≤ maxLen
  | [], fr, _, h => h
  | t :: r, fr, hl, h => by rw [fvT]; exact fvT_ok sc r _ (fun t ht => hl t (List.mem_cons_of_mem _ ht)) (putN_ok sc (hl t (List.mem_cons_self ..)) h)
mutual
theorem fvE_ok : ∀ (x : E) (sc : Nm → Bool) (fr : List Nm), okE x → (∀ y ∈ fr, y.length ≤ maxLen) → ∀ y ∈ fvE sc x fr, y.length ≤ maxLen
  | .mk k a n m ts bs ks al, sc, fr, o, h => by
    simp only [okE] at o
    rw [fvE]
    split
    · exact fvT_ok _ _ _ o.2.1 (putN_ok _ o.1 h)
    · split
      · exact fvT_ok _ _ _ o.2.1 h
      · split
        · exact fvT_ok _ _ _ o.2.1 h
        · split
          · exact fvK_ok ks _ _ o.2.2.2.1 (fvBs_ok bs _ _ o.2.2.1 h)
          · split
            · exact fvAs_ok al _ _ o.2.2.2.2 (fvK_ok ks _ _ o.2.2.2.1 h)
            · exact h
theorem fvB_ok : ∀ (x : B) (sc : Nm → Bool) (fr : List Nm), okB x → (∀ y ∈ fr, y.length ≤ maxLen) → ∀ y ∈ fvB sc x fr, y.length ≤ maxLen
  | .mk _ _ l x, sc, fr, o, h => by
    simp only [okB] at o
    rw [fvB]; exact fvE_ok x _ _ o.2.2 h
theorem fvA_ok : ∀ (x : A) (sc : Nm → Bool) (fr : List Nm), okA x → (∀ y ∈ fr, y.length ≤ maxLen) → ∀ y ∈ fvA sc x fr, y.length ≤ maxLen
  | .mk k a n m vs x, sc, fr, o, h => by
    simp only [okA] at o
    rw [fvA]
    split
    · exact fvE_ok x _ _ o.2.2 h
    · split
      · exact fvE_ok x _ _ o.2.2 h
      · split
        · exact fvE_ok x _ _ o.2.2 h
        · exact h
theorem fvK_ok : ∀ (x : List E) (sc : Nm → Bool) (fr : List Nm), okEs x → (∀ y ∈ fr, y.length ≤ maxLen) → ∀ y ∈ fvK sc x fr, y.length ≤ maxLen
  | [], sc, fr, o, h => by rw [fvK]; exact h
  | x :: _, sc, fr, o, h => by
    simp only [okEs] at o
    rw [fvK]; exact fvE_ok x _ _ o.1 h
theorem fvBs_ok : ∀ (x : List B) (sc : Nm → Bool) (fr : List Nm), okBs x → (∀ y ∈ fr, y.length ≤ maxLen) → ∀ y ∈ fvBs sc x fr, y.length ≤ maxLen
  | [], sc, fr, o, h => by rw [fvBs]; exact h
  | x :: r, sc, fr, o, h => by
    simp only [okBs] at o
    rw [fvBs]; exact fvBs_ok r _ _ o.2 (fvB_ok x _ _ o.1 h)
theorem fvAs_ok : ∀ (x : List A) (sc : Nm → Bool) (fr : List Nm), okAs x → (∀ y ∈ fr, y.length ≤ maxLen) → ∀ y ∈ fvAs sc x fr, y.length ≤ maxLen
  | [], sc, fr, o, h => by rw [fvAs]; exact h
  | x :: r, sc, fr, o, h => by
    simp only [okAs] at o
    rw [fvAs]; exact fvAs_ok r _ _ o.2 (fvA_ok x _ _ o.1 h)
end
abbrev frm9 (ga : Option Addr) (la ca : Nat) (k a xm : Int) (s : ByteArray) (g4 g5 g6 g7 : Option Addr) (n4 n5 n6 n7 c4 c5 c6 c7 : Nat) : Array Value := #[.slice ga la ca, .int .i64 k, .int .i64 a, .string s, .int .i64 xm, .slice g4 n4 c4, .slice g5 n5 c5, .slice g6 n6 c6, .slice g7 n7 c7]
set_option maxRecDepth 100000 in
set_option maxHeartbeats 8000000 in
theorem free_any (l : List Nm) (x : E) (w : World) (va : Value) (d : List Value) (R : IsRow w (fun g => g < w.heap.size) (strC l) l.length va) (I : isE w (fun g => g < w.heap.size) x d) (ok : okE x) (hl : ∀ s ∈ l, s.length ≤ maxLen) (hn : coE x ≤ 1000000000) :
    Calls Try.prog 11 #[.agg (va :: d).toArray] w fun e w' => ∃ v', e = .returned v' ∧ Below w.heap.size w w' ∧ IsRow w' (fun g => w.heap.size ≤ g ∧ g < w'.heap.size) (strC (freeF l x)) (freeF l x).length v' ∧ (freeF l x).length ≤ coE x := by
  obtain ⟨xk, xa, xm, xs, g4, g5, g6, g7, n4, n5, n6, n7, c4, c5, c6, c7, rfl⟩ := isE_eight I
  have HR := Hid.mk R
  obtain ⟨ga, ca, rfl, hca, _⟩ := R
  obtain ⟨la, hla⟩ : ∃ la, l.length = la := ⟨_, rfl⟩
  have HLA := Hid.mk hla
  rw [hla] at HR hca ⊢
  obtain ⟨o1, ho1⟩ : ∃ o, Obj.cells (frm9 ga la ca xk xa xm xs g4 g5 g6 g7 n4 n5 n6 n7 c4 c5 c6 c7) 30 = o := ⟨_, rfl⟩
  have K1 := Joins.below_alloc1 w o1
  have X1 : Bx (w.alloc o1) w.heap.size (frm9 ga la ca xk xa xm xs g4 g5 g6 g7 n4 n5 n6 n7 c4 c5 c6 c7) 30 := by rw [← ho1]; exact heap_alloc_new w _
  have lift : ∀ W, Below (w.alloc o1).heap.size (w.alloc o1) W → Below w.heap.size w W := fun W k => K1.trans (Joins.below_le k K1.size)
  have CW := Hid.mk (fun (W : World) (k : Below (w.alloc o1).heap.size (w.alloc o1) W) => within_any x W _ (isE_keeps (keeps_below (lift W k) (fun g hg => Nat.lt_of_lt_of_le hg (lift W k).size)) _ _ I) ok hn)
  have fok := fvE_ok x (fun _ => false) [] ok (fun y hy => by cases hy)
  have CO := Hid.mk (fun (W : World) (r : Value) (B : Nat) (hB : B ≤ W.heap.size) (k : Below (w.alloc o1).heap.size (w.alloc o1) W) (O : W.ownsRow B 9 1 r (fvE (fun _ => false) x []).length (strC (fvE (fun _ => false) x []))) (hlen : (fvE (fun _ => false) x []).length ≤ coE x) =>
    without_any (w := W) (ok := fun g => g < W.heap.size) _ r O hB fok (by omega) l (.slice ga la ca) (by have := HR.out.keeps (keeps_below (ok' := fun g => g < W.heap.size) (lift W k) (fun g hg => Nat.lt_of_lt_of_le hg (lift W k).size)); rwa [← HLA.out] at this ⊢) hl)
  have HLE : Hid (∀ m, (fvE (fun _ => false) x []).length ≤ m → (freeF l x).length ≤ m) := ⟨fun m h => Nat.le_trans (List.length_filter_le _ _) h⟩
  have efr : ((fvE (fun _ => false) x []).filter fun s => !l.contains s) = freeF l x := rfl
  have HX := Hid.mk (And.intro X1 lift)
  rw [efr] at CO
  generalize freeF l x = fl at *
  generalize fvE (fun _ => false) x [] = fr at *
  have y0 := X1.cell 0
  have y1 := X1.cell 1
  have y2 := X1.cell 2
  have y3 := X1.cell 3
  have y4 := X1.cell 4
  have y5 := X1.cell 5
  have y6 := X1.cell 6
  have y7 := X1.cell 7
  have y8 := X1.cell 8
  have HB0 := Hid.mk (fun (W : World) (e : Below (w.alloc o1).drew.heap.size (w.alloc o1).drew W) => show Below (w.alloc o1).heap.size (w.alloc o1) W from (Below.refl _ _).drew.trans e)
  have HB1 := Hid.mk (fun (W W' : World) (a : Below (w.alloc o1).heap.size (w.alloc o1) W) (e : Below (w.alloc o1).drew.heap.size W W') => show Below (w.alloc o1).heap.size (w.alloc o1) W' from a.trans e)
  have HB2 := Hid.mk (fun (W : World) (v : Value) (h : IsRow W (fun g => (w.alloc o1).drew.heap.size ≤ g ∧ g < W.heap.size) (strC fl) fl.length v) => show IsRow W (fun g => w.heap.size ≤ g ∧ g < W.heap.size) (strC fl) fl.length v from h.keeps ⟨fun _ _ _ _ h => h, fun g hg => ⟨Nat.le_trans K1.size hg.1, hg.2⟩⟩)
  clear efr I ok hl hn K1 X1 lift fok hla HR
  subst ho1
  go_enter Try.func11, Try.ntmps11
  go_wp2
  go_region_held3 (fun w' => w'.cell? ⟨w.heap.size, 0, none⟩ = some (.slice ga la ca) ∧ w'.cell? ⟨w.heap.size, 1, none⟩ = some (.int .i64 xk) ∧ w'.cell? ⟨w.heap.size, 2, none⟩ = some (.int .i64 xa) ∧ w'.cell? ⟨w.heap.size, 3, none⟩ = some (.string xs) ∧ w'.cell? ⟨w.heap.size, 4, none⟩ = some (.int .i64 xm) ∧ w'.cell? ⟨w.heap.size, 5, none⟩ = some (.slice g4 n4 c4) ∧ w'.cell? ⟨w.heap.size, 6, none⟩ = some (.slice g5 n5 c5) ∧ w'.cell? ⟨w.heap.size, 7, none⟩ = some (.slice g6 n6 c6) ∧ w'.cell? ⟨w.heap.size, 8, none⟩ = some (.slice g7 n7 c7)) (go_keep) (first
    | (go_at_call 19; refine (CO.out _ r _ BW.out.size BW.out OW.out.1 OW.out.2).mono ?_; rintro e w8 ⟨v8, rfl, B8, R8⟩; have BZ := Hid.mk (HB1.out _ _ BW.out B8); have RZ := Hid.mk (HB2.out _ _ R8); have u0 := (HX.out.1.later BZ.out).cell 0; have u1 := (HX.out.1.later BZ.out).cell 1; have u2 := (HX.out.1.later BZ.out).cell 2; have u3 := (HX.out.1.later BZ.out).cell 3; have u4 := (HX.out.1.later BZ.out).cell 4; have u5 := (HX.out.1.later BZ.out).cell 5; have u6 := (HX.out.1.later BZ.out).cell 6; have u7 := (HX.out.1.later BZ.out).cell 7; have u8 := (HX.out.1.later BZ.out).cell 8; clear B8 R8)
    | (go_at_call 20; refine (CW.out _ (Below.refl _ _).drew).mono ?_; rintro e w7 ⟨r, rfl, B7, N7, L7⟩; have BW := Hid.mk (HB0.out _ B7); have OW := Hid.mk (And.intro N7 L7); have z0 := (HX.out.1.later BW.out).cell 0; have z1 := (HX.out.1.later BW.out).cell 1; have z2 := (HX.out.1.later BW.out).cell 2; have z3 := (HX.out.1.later BW.out).cell 3; have z4 := (HX.out.1.later BW.out).cell 4; have z5 := (HX.out.1.later BW.out).cell 5; have z6 := (HX.out.1.later BW.out).cell 6; have z7 := (HX.out.1.later BW.out).cell 7; have z8 := (HX.out.1.later BW.out).cell 8; clear B7 N7 L7))
  all_goals go_wp2
  all_goals go_ret
  all_goals exact ⟨v8, rfl, HX.out.2 _ BZ.out, RZ.out, HLE.out _ OW.out.2⟩
end Go.Proofs.Ytmlegdnenklkhaa
