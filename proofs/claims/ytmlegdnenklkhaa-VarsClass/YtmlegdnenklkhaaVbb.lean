/- Package vars: Field. -/
import Derived.Test.YtmlegdnenklkhaaVba
import Derived.Test.YtmlegdnenklkhaaVam
import Derived.Deep.CutRange
import Derived.BigQuiet
namespace Go.Proofs.Ytmlegdnenklkhaa
open Go.RowKit
set_option linter.unusedVariables false
set_option linter.unusedSimpArgs false

theorem results_tmp4 {fn : Func} {t u v x : Tmp} (h : fn.results = #[.tmp t, .tmp u, .tmp v, .tmp x]) (tmps : Array Value) (P : Program) (w : World) :
    (results fn tmps).run P w = .ok (.tuple #[tmps.getD t undef, tmps.getD u undef, tmps.getD v undef, tmps.getD x undef]) w := by
  simp [results, h]
/-- what Field tells -/
def fldZ : Value := .tuple #[.string ⟨#[]⟩, .int .i64 0, .string ⟨#[]⟩, .bool false]
def fldT (an : ByteArray) (i : Int) (ks : ByteArray) : Value := .tuple #[.string an, .int .i64 i, .string ks, .bool true]
def picks (la : Nat) (k : Int) (n6 n7 : Nat) (kk : Int) (kl : Nat) (ak : Int) (vs : List Nm) (bk : Int) (bs : Nm) (bl : Nat) : Bool :=
  decide (la = 0) && k == 6 && !decide (n6 = 0) && decide (n7 = 1) && (kk == 1 && decide (kl = 0)) && ak == 1 && (bk == 1 && decide (bl = 0)) && decide (0 ≤ lastI bs vs)
def fldV (p : Bool) (an : ByteArray) (i : Int) (ks : ByteArray) : Value := if p = true then fldT an i ks else fldZ
section
variable {w : World} (ga : Option Addr) (la ca : Nat) (k a xm : Int) (s : ByteArray) (g4 g5 g6 g7 : Option Addr) (n4 n5 n6 n7 c4 c5 c6 c7 : Nat) (kk : Int) (ks : ByteArray) (kl : Nat) (ak : Int) (an : ByteArray) (vs : List Nm) (bk : Int) (bs : Nm) (bl : Nat)
set_option maxRecDepth 100000 in
set_option maxHeartbeats 8000000 in
theorem field_any (HK : 0 < n6 → KidAt w g6 kk ks kl) (HA : 0 < n7 → AltAt w g7 ak an vs bk (str bs) bl) (h6 : n6 ≤ c6) (h7 : n7 ≤ c7) :
    Calls Try.prog 6 #[.agg (frm9 ga la ca k a xm s g4 g5 g6 g7 n4 n5 n6 n7 c4 c5 c6 c7)] w fun e w' => e = .returned (fldV (picks la k n6 n7 kk kl ak vs bk bs bl) an (lastI bs vs) ks) ∧ Below w.heap.size w w' := by
  have K2 : Below w.heap.size w ((w.alloc (.cells (frm9 ga la ca k a xm s g4 g5 g6 g7 n4 n5 n6 n7 c4 c5 c6 c7) 30)).alloc (.cells (exp8 k a xm s g4 g5 g6 g7 n4 n5 n6 n7 c4 c5 c6 c7) 28)) := (Joins.below_alloc1 w _).alloc (by simp) _
  have HK2 := Hid.mk K2
  by_cases q1 : la = 0
  · subst q1
    by_cases q2 : k = 6
    · by_cases q3 : n6 = 0
      · have e : picks 0 k n6 n7 kk kl ak vs bk bs bl = false := by simp [picks, q3]
        rw [e]
        have p2 : (k != 6) = false := by simp [q2]
        have p3 : ((n6 : Int) == 0) = true := by simp [q3]
        clear HK HA K2 e q2 q3
        go_enter Try.func6, Try.ntmps6
        go_wp2
        ((try simp only [Exit.inBlock, Exit.then]); refine bodyPost_ret (results_tmp4 rfl _ _ _) rfl ?_)
        exact ⟨rfl, HK2.out⟩
      · by_cases q4 : n7 = 1
        · subst q2 q4
          obtain ⟨B, O, ka, km, h4, z4, h5, m5, z5, h6', m6, z6, h7', m7, z7, rfl, hk⟩ := HK (by omega)
          obtain ⟨B2, O2, aa, am, gv, cv, ya, ym, i4, y4, i5, l5, y5, i6, l6, y6, i7, l7, y7, rfl, SR, hcv, ha⟩ := HA (by omega)
          have u0 := hk 0 _ rfl
          have u1 := hk 1 _ rfl
          have u2 := hk 2 _ rfl
          have u3 := hk 3 _ rfl
          have u4 := hk 4 _ rfl
          have u5 := hk 5 _ rfl
          have u6 := hk 6 _ rfl
          have u7 := hk 7 _ rfl
          have t0 := ha 0 _ rfl
          have t1 := ha 1 _ rfl
          have t2 := ha 2 _ rfl
          have t3 := ha 3 _ rfl
          have t4 := ha 4 _ rfl
          have t5 := ha 5 _ rfl
          have t6 := ha 6 _ rfl
          have t7 := ha 7 _ rfl
          have t8 := ha 8 _ rfl
          have t9 := ha 9 _ rfl
          have t10 := ha 10 _ rfl
          have t11 := ha 11 _ rfl
          have t12 := ha 12 _ rfl
          rw [Nat.add_zero] at u0 t0
          have p3 : ((n6 : Int) == 0) = false := by simp; omega
          have p5 : (0 : Int) < n6 := by omega
          have p5b : ¬ (n6 : Int) ≤ 0 := by omega
          have p5c : 0 < n6 := by omega
          have p5e : ¬ n6 ≤ 0 := by omega
          have p5f : (1 : Int) ≤ n6 := by omega
          have p5g : ¬ (n6 : Int) < 1 := by omega
          have p5h : (0 : Int) ≤ n6 := by omega
          have HSR := Hid.mk (And.intro SR hcv)
          generalize hlv : vs.length = lv at *
          have XX : Bx ((w.alloc (.cells (frm9 ga 0 ca 6 a xm s g4 g5 (some ⟨B, O, none⟩) (some ⟨B2, O2, none⟩) n4 n5 n6 1 c4 c5 c6 c7) 30)).alloc (.cells (exp8 6 a xm s g4 g5 (some ⟨B, O, none⟩) (some ⟨B2, O2, none⟩) n4 n5 n6 1 c4 c5 c6 c7) 28)) (w.heap.size + 1) (exp8 6 a xm s g4 g5 (some ⟨B, O, none⟩) (some ⟨B2, O2, none⟩) n4 n5 n6 1 c4 c5 c6 c7) 28 := by
            have := heap_alloc_new (w.alloc (.cells (frm9 ga 0 ca 6 a xm s g4 g5 (some ⟨B, O, none⟩) (some ⟨B2, O2, none⟩) n4 n5 n6 1 c4 c5 c6 c7) 30)) (.cells (exp8 6 a xm s g4 g5 (some ⟨B, O, none⟩) (some ⟨B2, O2, none⟩) n4 n5 n6 1 c4 c5 c6 c7) 28)
            rwa [World.size_alloc] at this
          have v6 := XX.cell 6
          have v7 := XX.cell 7
          replace u0 := (K2.cell (World.block_lt_of_cell? _ _ u0)).trans u0
          replace u1 := (K2.cell (World.block_lt_of_cell? _ _ u1)).trans u1
          replace u2 := (K2.cell (World.block_lt_of_cell? _ _ u2)).trans u2
          replace u3 := (K2.cell (World.block_lt_of_cell? _ _ u3)).trans u3
          replace u4 := (K2.cell (World.block_lt_of_cell? _ _ u4)).trans u4
          replace u5 := (K2.cell (World.block_lt_of_cell? _ _ u5)).trans u5
          replace u6 := (K2.cell (World.block_lt_of_cell? _ _ u6)).trans u6
          replace u7 := (K2.cell (World.block_lt_of_cell? _ _ u7)).trans u7
          replace t0 := (K2.cell (World.block_lt_of_cell? _ _ t0)).trans t0
          replace t1 := (K2.cell (World.block_lt_of_cell? _ _ t1)).trans t1
          replace t2 := (K2.cell (World.block_lt_of_cell? _ _ t2)).trans t2
          replace t3 := (K2.cell (World.block_lt_of_cell? _ _ t3)).trans t3
          replace t4 := (K2.cell (World.block_lt_of_cell? _ _ t4)).trans t4
          replace t5 := (K2.cell (World.block_lt_of_cell? _ _ t5)).trans t5
          replace t6 := (K2.cell (World.block_lt_of_cell? _ _ t6)).trans t6
          replace t7 := (K2.cell (World.block_lt_of_cell? _ _ t7)).trans t7
          replace t8 := (K2.cell (World.block_lt_of_cell? _ _ t8)).trans t8
          replace t9 := (K2.cell (World.block_lt_of_cell? _ _ t9)).trans t9
          replace t10 := (K2.cell (World.block_lt_of_cell? _ _ t10)).trans t10
          replace t11 := (K2.cell (World.block_lt_of_cell? _ _ t11)).trans t11
          replace t12 := (K2.cell (World.block_lt_of_cell? _ _ t12)).trans t12
          have HP : picks 0 6 n6 1 kk kl ak vs bk bs bl = ((kk == 1 && decide (kl = 0)) && ak == 1 && (bk == 1 && decide (bl = 0)) && decide (0 ≤ lastI bs vs)) := by simp [picks, q3]
          have hge := (lastI_ge bs vs).1
          obtain ⟨li, hli⟩ : ∃ li, lastI bs vs = li := ⟨_, rfl⟩
          rw [HP]
          rw [hli] at hge ⊢
          have HLI := Hid.mk hli
          obtain ⟨rv, hrv⟩ : ∃ rv, fldV ((kk == 1 && decide (kl = 0)) && ak == 1 && (bk == 1 && decide (bl = 0)) && decide (0 ≤ li)) an li ks = rv := ⟨_, rfl⟩
          rw [hrv]
          have HRV := Hid.mk hrv
          clear SR hcv HK HA XX hk ha K2 HP hli hrv q3
          go_enter Try.func6, Try.ntmps6
          go_wp2
          generalize ((w.alloc (.cells (frm9 ga 0 ca 6 a xm s g4 g5 (some ⟨B, O, none⟩) (some ⟨B2, O2, none⟩) n4 n5 n6 1 c4 c5 c6 c7) 30)).alloc (.cells (exp8 6 a xm s g4 g5 (some ⟨B, O, none⟩) (some ⟨B2, O2, none⟩) n4 n5 n6 1 c4 c5 c6 c7) 28)) = w2 at *
          go_cut [7, 8] from 9 to 65 (fun u v wx => ∃ p q, u = ptr p ∧ v = ptr q ∧ Bx wx p #[.int .i64 kk, .int .i64 ka, .string ks, .int .i64 km, .slice h4 kl z4, .slice h5 m5 z5, .slice h6' m6 z6, .slice h7' m7 z7] 28 ∧ Bx wx q #[.int .i64 ak, .int .i64 aa, .string an, .int .i64 am, .slice gv lv cv, .int .i64 bk, .int .i64 ya, .string (str bs), .int .i64 ym, .slice i4 bl y4, .slice i5 l5 y5, .slice i6 l6 y6, .slice i7 l7 y7] 51 ∧ Below w.heap.size w wx)
          case first =>
            go_region_held3 (fun w' => w'.cell? ⟨w.heap.size + 1, 6, none⟩ = some (.slice (some ⟨B, O, none⟩) n6 c6) ∧ w'.cell? ⟨w.heap.size + 1, 7, none⟩ = some (.slice (some ⟨B2, O2, none⟩) 1 c7) ∧ w'.cell? ⟨B, O, none⟩ = some (.int .i64 kk) ∧ w'.cell? ⟨B, O + 1, none⟩ = some (.int .i64 ka) ∧ w'.cell? ⟨B, O + 2, none⟩ = some (.string ks) ∧ w'.cell? ⟨B, O + 3, none⟩ = some (.int .i64 km) ∧ w'.cell? ⟨B, O + 4, none⟩ = some (.slice h4 kl z4) ∧ w'.cell? ⟨B, O + 5, none⟩ = some (.slice h5 m5 z5) ∧ w'.cell? ⟨B, O + 6, none⟩ = some (.slice h6' m6 z6) ∧ w'.cell? ⟨B, O + 7, none⟩ = some (.slice h7' m7 z7) ∧ w'.cell? ⟨B2, O2, none⟩ = some (.int .i64 ak) ∧ w'.cell? ⟨B2, O2 + 1, none⟩ = some (.int .i64 aa) ∧ w'.cell? ⟨B2, O2 + 2, none⟩ = some (.string an) ∧ w'.cell? ⟨B2, O2 + 3, none⟩ = some (.int .i64 am) ∧ w'.cell? ⟨B2, O2 + 4, none⟩ = some (.slice gv lv cv) ∧ w'.cell? ⟨B2, O2 + 5, none⟩ = some (.int .i64 bk) ∧ w'.cell? ⟨B2, O2 + 6, none⟩ = some (.int .i64 ya) ∧ w'.cell? ⟨B2, O2 + 7, none⟩ = some (.string (str bs)) ∧ w'.cell? ⟨B2, O2 + 8, none⟩ = some (.int .i64 ym) ∧ w'.cell? ⟨B2, O2 + 9, none⟩ = some (.slice i4 bl y4) ∧ w'.cell? ⟨B2, O2 + 10, none⟩ = some (.slice i5 l5 y5) ∧ w'.cell? ⟨B2, O2 + 11, none⟩ = some (.slice i6 l6 y6) ∧ w'.cell? ⟨B2, O2 + 12, none⟩ = some (.slice i7 l7 y7)) (go_keep) (fail)
            all_goals go_wp2
            all_goals go_meet
            all_goals first
              | exact ⟨_, _, rfl, rfl, (by have := heap_alloc_new (w2.alloc (.cells #[.int .i64 ak, .int .i64 aa, .string an, .int .i64 am, .slice gv lv cv, .int .i64 bk, .int .i64 ya, .string (str bs), .int .i64 ym, .slice i4 bl y4, .slice i5 l5 y5, .slice i6 l6 y6, .slice i7 l7 y7] 51)) (.cells #[.int .i64 kk, .int .i64 ka, .string ks, .int .i64 km, .slice h4 kl z4, .slice h5 m5 z5, .slice h6' m6 z6, .slice h7' m7 z7] 28); rw [World.size_alloc] at this; exact this), (by exact ((Joins.below_alloc1 (w2.alloc (.cells #[.int .i64 ak, .int .i64 aa, .string an, .int .i64 am, .slice gv lv cv, .int .i64 bk, .int .i64 ya, .string (str bs), .int .i64 ym, .slice i4 bl y4, .slice i5 l5 y5, .slice i6 l6 y6, .slice i7 l7 y7] 51)) _).block _ (by simp)).trans (heap_alloc_new w2 (.cells #[.int .i64 ak, .int .i64 aa, .string an, .int .i64 am, .slice gv lv cv, .int .i64 bk, .int .i64 ya, .string (str bs), .int .i64 ym, .slice i4 bl y4, .slice i5 l5 y5, .slice i6 l6 y6, .slice i7 l7 y7] 51))), (by exact ((HK2.out.alloc HK2.out.size _).alloc (by simp; have := HK2.out.size; omega) _).drew)⟩
              | exact ⟨_, _, rfl, rfl, (by exact ((Joins.below_alloc1 (w2.alloc (.cells #[.int .i64 kk, .int .i64 ka, .string ks, .int .i64 km, .slice h4 kl z4, .slice h5 m5 z5, .slice h6' m6 z6, .slice h7' m7 z7] 28)) _).block _ (by simp)).trans (heap_alloc_new w2 (.cells #[.int .i64 kk, .int .i64 ka, .string ks, .int .i64 km, .slice h4 kl z4, .slice h5 m5 z5, .slice h6' m6 z6, .slice h7' m7 z7] 28))), (by have := heap_alloc_new (w2.alloc (.cells #[.int .i64 kk, .int .i64 ka, .string ks, .int .i64 km, .slice h4 kl z4, .slice h5 m5 z5, .slice h6' m6 z6, .slice h7' m7 z7] 28)) (.cells #[.int .i64 ak, .int .i64 aa, .string an, .int .i64 am, .slice gv lv cv, .int .i64 bk, .int .i64 ya, .string (str bs), .int .i64 ym, .slice i4 bl y4, .slice i5 l5 y5, .slice i6 l6 y6, .slice i7 l7 y7] 51); rw [World.size_alloc] at this; exact this), (by exact ((HK2.out.alloc HK2.out.size _).alloc (by simp; have := HK2.out.size; omega) _).drew)⟩
          case rest =>
            obtain ⟨pk, pa, rfl, rfl, XK, XA, BC⟩ := hcut
            clear v6 v7 u0 u1 u2 u3 u4 u5 u6 u7 t0 t1 t2 t3 t4 t5 t6 t7 t8 t9 t10 t11 t12 HK2
            have HXA := Hid.mk (fun (W : World) (k : Below wc.heap.size wc W) => XA.later k)
            have HXK := Hid.mk (fun (W : World) (k : Below wc.heap.size wc W) => XK.later k)
            have HBC := Hid.mk (fun (W : World) (k : Below wc.heap.size wc W) => BC.trans (Joins.below_le k BC.size))
            have HK1 := Hid.mk (fun (W : World) (e : W = wc.alloc (.cells (exp8 kk ka km ks h4 h5 h6' h7' kl m5 m6 m7 z4 z5 z6 z7) 28)) => show Below wc.heap.size wc W by rw [e]; exact Joins.below_alloc1 wc _)
            have HK2' := Hid.mk (fun (V W : World) (k : Below wc.heap.size wc V) (e : W = V.alloc (.cells (exp8 bk ya ym (str bs) i4 i5 i6 i7 bl l5 l6 l7 y4 y5 y6 y7) 28)) => show Below wc.heap.size wc W by rw [e]; exact k.alloc k.size _)
            have HL := Hid.mk (fun (W : World) (k : Below wc.heap.size wc W) => show Calls Try.prog 17 #[.slice gv lv cv, .func (.func 18) #[] #[ptr pa]] W (fun e w' => e = .returned (.int .i64 (lastI bs vs)) ∧ w' = W) by
              have := last_any W gv vs cv (HSR.out.1.later (BC.trans (Joins.below_le k BC.size))) (by rw [hlv]; exact HSR.out.2) pa bs ((XA.later k).cell 7)
              rwa [hlv] at this)
            have C1 := alone_any wc kk ka km ks h4 h5 h6' h7' kl m5 m6 m7 z4 z5 z6 z7
            have C2 := Hid.mk (fun W => alone_any W bk ya ym (str bs) i4 i5 i6 i7 bl l5 l6 l7 y4 y5 y6 y7)
            have k0 := XK.cell 0
            have k1 := XK.cell 1
            have k2 := XK.cell 2
            have k3 := XK.cell 3
            have k4 := XK.cell 4
            have k5 := XK.cell 5
            have k6 := XK.cell 6
            have k7 := XK.cell 7
            rw [HLI.out] at HL
            clear hlv HSR XA XK BC HLI
            cases b1 : (kk == 1 && decide (kl = 0))
            · rw [b1] at C1
              have HB1 := Hid.mk b1
              clear b1 C2 HL
              go_wp2_with (go_at_call 16; refine C1.mono ?_; rintro e w9 ⟨rfl, hw9⟩; have K9 := Hid.mk (HK1.out w9 hw9); have b0 := (HXA.out w9 K9.out).cell 0; have b4 := (HXA.out w9 K9.out).cell 4; have b5 := (HXA.out w9 K9.out).cell 5; have b6 := (HXA.out w9 K9.out).cell 6; have b7 := (HXA.out w9 K9.out).cell 7; have b8 := (HXA.out w9 K9.out).cell 8; have b9 := (HXA.out w9 K9.out).cell 9; have b10 := (HXA.out w9 K9.out).cell 10; have b11 := (HXA.out w9 K9.out).cell 11; have b12 := (HXA.out w9 K9.out).cell 12; clear hw9)
              ((try simp only [Exit.inBlock, Exit.then]); refine bodyPost_ret (results_tmp4 rfl _ _ _) rfl ?_)
              exact ⟨by rw [← HRV.out, HB1.out]; rfl, HBC.out _ K9.out⟩
            · rw [b1] at C1
              have HB1 := Hid.mk b1
              cases b2 : (ak == 1)
              · have p7 : (ak != 1) = true := by rw [bne, b2]; rfl
                have HB2 := Hid.mk b2
                clear b1 b2 C2 HL
                go_wp2_with (go_at_call 16; refine C1.mono ?_; rintro e w9 ⟨rfl, hw9⟩; have K9 := Hid.mk (HK1.out w9 hw9); have b0 := (HXA.out w9 K9.out).cell 0; have b4 := (HXA.out w9 K9.out).cell 4; have b5 := (HXA.out w9 K9.out).cell 5; have b6 := (HXA.out w9 K9.out).cell 6; have b7 := (HXA.out w9 K9.out).cell 7; have b8 := (HXA.out w9 K9.out).cell 8; have b9 := (HXA.out w9 K9.out).cell 9; have b10 := (HXA.out w9 K9.out).cell 10; have b11 := (HXA.out w9 K9.out).cell 11; have b12 := (HXA.out w9 K9.out).cell 12; clear hw9)
                ((try simp only [Exit.inBlock, Exit.then]); refine bodyPost_ret (results_tmp4 rfl _ _ _) rfl ?_)
                exact ⟨by rw [← HRV.out, HB1.out, HB2.out]; rfl, HBC.out _ K9.out⟩
              · have p7 : (ak != 1) = false := by rw [bne, b2]; rfl
                cases b3 : (bk == 1 && decide (bl = 0))
                · rw [b3] at C2
                  have HB2 := Hid.mk b2
                  have HB3 := Hid.mk b3
                  clear b1 b2 b3
                  go_wp2_with (first | (go_at_call 16; have zz := K9; refine (C2.out _).mono ?_; rintro e w10 ⟨rfl, hw10⟩; have K10 := Hid.mk (HK2'.out _ w10 K9.out hw10); have d2 := (HXA.out w10 K10.out).cell 2; have d4 := (HXA.out w10 K10.out).cell 4; have e2 := (HXK.out w10 K10.out).cell 2; have C3 := HL.out w10 K10.out; clear hw10) | (go_at_call 16; refine C1.mono ?_; rintro e w9 ⟨rfl, hw9⟩; have K9 := Hid.mk (HK1.out w9 hw9); have b0 := (HXA.out w9 K9.out).cell 0; have b4 := (HXA.out w9 K9.out).cell 4; have b5 := (HXA.out w9 K9.out).cell 5; have b6 := (HXA.out w9 K9.out).cell 6; have b7 := (HXA.out w9 K9.out).cell 7; have b8 := (HXA.out w9 K9.out).cell 8; have b9 := (HXA.out w9 K9.out).cell 9; have b10 := (HXA.out w9 K9.out).cell 10; have b11 := (HXA.out w9 K9.out).cell 11; have b12 := (HXA.out w9 K9.out).cell 12; clear hw9))
                  ((try simp only [Exit.inBlock, Exit.then]); refine bodyPost_ret (results_tmp4 rfl _ _ _) rfl ?_)
                  exact ⟨by rw [← HRV.out, HB1.out, HB2.out, HB3.out]; rfl, HBC.out _ K10.out⟩
                · rw [b3] at C2
                  by_cases b4 : 0 ≤ li
                  · have p8 : ¬ li < 0 := by omega
                    have HB2 := Hid.mk b2
                    have HB3 := Hid.mk b3
                    have HB4 : Hid (decide (0 ≤ li) = true) := ⟨by simp [b4]⟩
                    clear b1 b2 b3 b4
                    go_wp2_with (first | (go_at_call 17; refine C3.mono ?_; rintro e w11 ⟨rfl, rfl⟩) | (go_at_call 16; have zz := K9; refine (C2.out _).mono ?_; rintro e w10 ⟨rfl, hw10⟩; have K10 := Hid.mk (HK2'.out _ w10 K9.out hw10); have d2 := (HXA.out w10 K10.out).cell 2; have d4 := (HXA.out w10 K10.out).cell 4; have e2 := (HXK.out w10 K10.out).cell 2; have C3 := HL.out w10 K10.out; clear hw10) | (go_at_call 16; refine C1.mono ?_; rintro e w9 ⟨rfl, hw9⟩; have K9 := Hid.mk (HK1.out w9 hw9); have b0 := (HXA.out w9 K9.out).cell 0; have b4 := (HXA.out w9 K9.out).cell 4; have b5 := (HXA.out w9 K9.out).cell 5; have b6 := (HXA.out w9 K9.out).cell 6; have b7 := (HXA.out w9 K9.out).cell 7; have b8 := (HXA.out w9 K9.out).cell 8; have b9 := (HXA.out w9 K9.out).cell 9; have b10 := (HXA.out w9 K9.out).cell 10; have b11 := (HXA.out w9 K9.out).cell 11; have b12 := (HXA.out w9 K9.out).cell 12; clear hw9))
                    go_quiet (fail)
                    all_goals go_wp2
                    all_goals ((try simp only [Exit.inBlock, Exit.then]); refine bodyPost_ret (results_tmp4 rfl _ _ _) rfl ?_)
                    all_goals exact ⟨by rw [← HRV.out, HB1.out, HB2.out, HB3.out, HB4.out]; rfl, below_drewN (HBC.out _ K10.out) _⟩
                  · have p8 : li < 0 := by omega
                    have HB2 := Hid.mk b2
                    have HB3 := Hid.mk b3
                    have HB4 : Hid (decide (0 ≤ li) = false) := ⟨by simp [b4]⟩
                    clear b1 b2 b3 b4
                    go_wp2_with (first | (go_at_call 17; refine C3.mono ?_; rintro e w11 ⟨rfl, rfl⟩) | (go_at_call 16; have zz := K9; refine (C2.out _).mono ?_; rintro e w10 ⟨rfl, hw10⟩; have K10 := Hid.mk (HK2'.out _ w10 K9.out hw10); have d2 := (HXA.out w10 K10.out).cell 2; have d4 := (HXA.out w10 K10.out).cell 4; have e2 := (HXK.out w10 K10.out).cell 2; have C3 := HL.out w10 K10.out; clear hw10) | (go_at_call 16; refine C1.mono ?_; rintro e w9 ⟨rfl, hw9⟩; have K9 := Hid.mk (HK1.out w9 hw9); have b0 := (HXA.out w9 K9.out).cell 0; have b4 := (HXA.out w9 K9.out).cell 4; have b5 := (HXA.out w9 K9.out).cell 5; have b6 := (HXA.out w9 K9.out).cell 6; have b7 := (HXA.out w9 K9.out).cell 7; have b8 := (HXA.out w9 K9.out).cell 8; have b9 := (HXA.out w9 K9.out).cell 9; have b10 := (HXA.out w9 K9.out).cell 10; have b11 := (HXA.out w9 K9.out).cell 11; have b12 := (HXA.out w9 K9.out).cell 12; clear hw9))
                    ((try simp only [Exit.inBlock, Exit.then]); refine bodyPost_ret (results_tmp4 rfl _ _ _) rfl ?_)
                    exact ⟨by rw [← HRV.out, HB1.out, HB2.out, HB3.out, HB4.out]; rfl, HBC.out _ K10.out⟩
        · have e : picks 0 k n6 n7 kk kl ak vs bk bs bl = false := by simp [picks, q4]
          rw [e]
          have p2 : (k != 6) = false := by simp [q2]
          have p3 : ((n6 : Int) == 0) = false := by simp; omega
          have p4 : ((n7 : Int) != 1) = true := by simp; omega
          clear HK HA K2 e q2 q3 q4
          go_enter Try.func6, Try.ntmps6
          go_wp2
          ((try simp only [Exit.inBlock, Exit.then]); refine bodyPost_ret (results_tmp4 rfl _ _ _) rfl ?_)
          exact ⟨rfl, HK2.out⟩
    · have e : picks 0 k n6 n7 kk kl ak vs bk bs bl = false := by simp [picks, q2]
      rw [e]
      have p2 : (k != 6) = true := by simp [q2]
      clear HK HA K2 e q2
      go_enter Try.func6, Try.ntmps6
      go_wp2
      ((try simp only [Exit.inBlock, Exit.then]); refine bodyPost_ret (results_tmp4 rfl _ _ _) rfl ?_)
      exact ⟨rfl, HK2.out⟩
  · have e : picks la k n6 n7 kk kl ak vs bk bs bl = false := by simp [picks, q1]
    rw [e]
    have p1 : (0 : Int) < la := by omega
    clear HK HA K2 e q1
    go_enter Try.func6, Try.ntmps6
    go_wp2
    ((try simp only [Exit.inBlock, Exit.then]); refine bodyPost_ret (results_tmp4 rfl _ _ _) rfl ?_)
    exact ⟨rfl, HK2.out⟩
end
end Go.Proofs.Ytmlegdnenklkhaa
