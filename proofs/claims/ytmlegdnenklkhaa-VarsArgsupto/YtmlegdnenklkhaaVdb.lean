/- A form that came in, opened; append of any number of items where a region draws its order. -/
import Derived.Test.YtmlegdnenklkhaaOpn
import Derived.Test.YtmlegdnenklkhaaVca
import Derived.Deep.CutRange
import Derived.BigQuiet
namespace Go.Proofs.Ytmlegdnenklkhaa
open Go.ChangeShapes Go.WideShapes Go.ChangeAt Go.RowKit
set_option linter.unusedVariables false
set_option linter.unusedSimpArgs false
set_option maxRecDepth 100000

theorem open_form {H : Type} {enc : TypeId × Value → H} {w : World} {spare : Nat → Bool} {held : Bool} {v : Value} {d : DataW H} {p : List MemPlace} (h : DataW.Trod enc Try.prog w 0 spare held 30 v d p) (hb : Rows.uptoBulk d ≤ 1048576) :
    ∃ (l : List Nm) (x : E) (va : Value) (dx : List Value), v = .agg (va :: dx).toArray ∧ IsRow w (fun g => g < w.heap.size) (strC l) l.length va ∧ isE w (fun g => g < w.heap.size) x dx ∧ wtN l + wtE x ≤ 1048576 := by
  obtain ⟨fuel, hf0⟩ := h
  obtain ⟨xs, n, _, ex, hl, hlen, hf⟩ := DataW.trod_struct Try.underlying30 hf0
  have c0 : Try.prog.cellsOf 30 = 9 := by kernel_rfl
  have c1 : Try.prog.cellsOf 22 = 1 := by kernel_rfl
  have ed : d = .agg (xs.map (·.1)) := congrArg Prod.fst ex
  subst ed
  rw [c0] at hl
  cases v with
  | agg cs =>
    simp only [Value.cells] at hl hf
    obtain ⟨cl⟩ := cs
    simp only at hl hf
    match cl, hl, xs, hlen with
    | [v0, v1, v2, v3, v4, v5, v6, v7, v8], _, [x0, x1], _ =>
      have f0 := hf 0 _ rfl
      have f1 := hf 1 _ rfl
      simp [c1, cE] at f0 f1
      simp only [List.map_cons, List.map_nil, Rows.uptoBulk, Rows.uptoBulkAll] at hb
      obtain ⟨l, u, ev, r1, r2⟩ := open_strs 1048575 (by decide) f0 (by omega)
      obtain ⟨y, i1, i2, i3⟩ := open_exp 1048576 (by decide) _ _ _ f1 (by omega)
      simp only [List.cons.injEq, and_true] at ev
      subst ev
      exact ⟨l, y, _, _, rfl, r1, i1, by omega⟩
  | _ => simp [Value.cells] at hl
theorem step_append_S {P : Program} {w : World} {ops : Array Oper} {o : Oper} {a : Act} {K : Act → World → Prop} {Q : Exit → Act → World → Prop} {E : Prop} (hgd : o.guard = none) (s x : Operand) (t : TypeId)
    (ho : o.op = .call { callee := .builtin .append, args := #[s, x], argTypes := #[t, t] })
    (base : Nat) (e : TypeId) (i : TypeInfo) (z : Value) (size bytes : Nat) (ht : P.underlying t = some (.slice e)) (hi : P.info? e = some i) (hz : i.zero = some z)
    (hsize : i.size = size) (hby : i.bytes = bytes) (hzs : z.cells.size = size) (hsz : 0 < size)
    (v : Value) (n : Nat) (xs : List Value) (hs : a.eval s = v) (hown : RowS w base e size v n xs)
    (ga : Option Addr) (m c : Nat) (news : List Value) (hx : a.eval x = .slice ga m c) (hl : news.length = m * size) (hnews : 0 < m → ∃ ad, ga = some ad ∧ ∀ j u, news[j]? = some u → w.cell? (ad.add j) = some u) (h1 : ∀ u ∈ news, u.oneCell' = true)
    (k : Nat) (hk : n + m = k) (ys : List Value) (hy : xs ++ news = ys)
    (h63 : k ≤ maxLen) (hbytes : k * bytes ≤ 140737488355328) (hbase : base ≤ w.heap.size)
    (h : ∀ ga' cap' w', RowS w' base e size (.slice ga' k cap') k ys → Below base w w' → K (a.put o.dst (.slice ga' k cap')) w') :
    if Region.wanted o (yielded ops a.tmps) = true then Oper.wp P o a w K Q else E := by
  subst hk hy
  obtain ⟨ga', cap', w', hr, h2, h3⟩ := run_append_S (P := P) w t o.type e base i z size bytes ht hi hz hsize hby hzs hsz v n xs hown ga m c news hl hnews h1 h63 hbytes hbase
  have hw : Region.wanted o (yielded ops a.tmps) = true := by unfold Region.wanted; rw [hgd]
  rw [if_pos hw]
  unfold Oper.wp execOp
  simp only [ho, resolve, invoke, builtin, Sem.run_bind, Sem.run_pure, Result.andThen_ok, List.map_toArray, List.map_cons, List.map_nil, hs, hx, hr]
  exact h ga' cap' w' h2 h3
end Go.Proofs.Ytmlegdnenklkhaa

/- VarsArgs, of a form in memory. -/
namespace Go.Proofs.Ytmlegdnenklkhaa
open Go.RowKit
set_option linter.unusedVariables false
set_option linter.unusedSimpArgs false

theorem join_two {w7 X w1 : World} (b1 : Below X.heap.size X w1) (b : Below w7.heap.size w7 X) : Below w7.heap.size w7 w1 ∧ w7.heap.size ≤ X.heap.size := ⟨b.trans (Joins.below_le b1 b.size), b.size⟩
set_option maxRecDepth 100000 in
set_option maxHeartbeats 8000000 in
theorem args_any (l : List Nm) (x : E) (va : Value) (dx : List Value) (nm : Nm) (w : World) (R : IsRow w (fun g => g < w.heap.size) (strC l) l.length va) (I : isE w (fun g => g < w.heap.size) x dx) (hw : wtN l + wtE x ≤ 1048576) (hnm : nm.length ≤ maxLen) :
    Calls Try.prog 4 #[.agg (va :: dx).toArray, .string (str nm)] w fun e w' => e = .returned (.bool true) ∧ Below w.heap.size w w' := by
  have okx := ok_E x (by omega)
  have okl : ∀ s ∈ l, s.length ≤ maxLen := fun s hs => by have := wtN_mem hs; unfold maxLen; omega
  have hco := co_wE x
  have hll := wtN_len l
  have okl2 : ∀ s ∈ l ++ [nm], s.length ≤ maxLen := fun s hs => by
    rcases List.mem_append.1 hs with e | e
    · exact okl s e
    · rw [List.mem_singleton] at e; rw [e]; exact hnm
  have HF1 := Hid.mk (fun (W : World) (b : Below w.heap.size w W) => free_any l x W va dx (R.keeps (keeps_below b (fun g hg => Nat.lt_of_lt_of_le hg b.size))) (isE_keeps (keeps_below b (fun g hg => Nat.lt_of_lt_of_le hg b.size)) _ _ I) okx okl (by omega))
  have HF2 := Hid.mk (fun (W : World) (v2 : Value) (b : Below w.heap.size w W) (R2 : IsRow W (fun g => g < W.heap.size) (strC (l ++ [nm])) (l ++ [nm]).length v2) => free_any (l ++ [nm]) x W v2 dx R2 (isE_keeps (keeps_below b (fun g hg => Nat.lt_of_lt_of_le hg b.size)) _ _ I) okx okl2 (by omega))
  rw [freeF_more] at HF2
  obtain ⟨xk, xa, xm, xs, g4, g5, g6, g7, n4, n5, n6, n7, c4, c5, c6, c7, rfl⟩ := isE_eight I
  have HR := Hid.mk R
  obtain ⟨ga, ca, rfl, hca, -⟩ := R
  have HAW := Hid.mk (fun (W : World) => awake_any W)
  have HM : Hid (l.length ≤ 1048576 ∧ coE x ≤ 2097152) := ⟨by omega, by omega⟩
  have HLS : Hid ((l ++ [nm]).length = l.length + 1) := ⟨by simp⟩
  generalize hnl : l.length = nl at *
  have HNL := Hid.mk hnl
  have K1 : Below w.heap.size w (w.alloc (.cells (frm9 ga nl ca xk xa xm xs g4 g5 g6 g7 n4 n5 n6 n7 c4 c5 c6 c7) 30)) := Joins.below_alloc1 w _
  have X1 : Bx (w.alloc (.cells (frm9 ga nl ca xk xa xm xs g4 g5 g6 g7 n4 n5 n6 n7 c4 c5 c6 c7) 30)) w.heap.size (frm9 ga nl ca xk xa xm xs g4 g5 g6 g7 n4 n5 n6 n7 c4 c5 c6 c7) 30 := heap_alloc_new w _
  have C1 := HF1.out _ K1
  have HBX := Hid.mk (fun (W : World) (b : Below (w.alloc (.cells (frm9 ga nl ca xk xa xm xs g4 g5 g6 g7 n4 n5 n6 n7 c4 c5 c6 c7) 30)).heap.size (w.alloc (.cells (frm9 ga nl ca xk xa xm xs g4 g5 g6 g7 n4 n5 n6 n7 c4 c5 c6 c7) 30)) W) => X1.later b)
  have HLI := Hid.mk (fun (W : World) (b : Below (w.alloc (.cells (frm9 ga nl ca xk xa xm xs g4 g5 g6 g7 n4 n5 n6 n7 c4 c5 c6 c7) 30)).heap.size (w.alloc (.cells (frm9 ga nl ca xk xa xm xs g4 g5 g6 g7 n4 n5 n6 n7 c4 c5 c6 c7) 30)) W) => show Below w.heap.size w W from K1.trans (Joins.below_le b K1.size))
  have y0 := X1.cell 0
  have y1 := X1.cell 1
  have y2 := X1.cell 2
  have y3 := X1.cell 3
  have y4 := X1.cell 4
  have y5 := X1.cell 5
  have y6 := X1.cell 6
  have y7 := X1.cell 7
  have y8 := X1.cell 8
  generalize freeF l x = fl at *
  generalize coE x = cx at *
  clear I okx okl okl2 hco hll hw HF1 X1 K1 hnl
  go_enter Try.func4, Try.ntmps4
  go_wp2_with (go_at_call 11; refine C1.mono ?_; rintro e w7 ⟨r, rfl, b7, R7, L7⟩; have B7 := Hid.mk b7; have HR7 := Hid.mk R7; have HL7 := Hid.mk L7; obtain ⟨gr, cr, rfl, hcr, -⟩ := R7; have z0 := (HBX.out w7 b7).cell 0; have z1 := (HBX.out w7 b7).cell 1; have z2 := (HBX.out w7 b7).cell 2; have z3 := (HBX.out w7 b7).cell 3; have z4 := (HBX.out w7 b7).cell 4; have z5 := (HBX.out w7 b7).cell 5; have z6 := (HBX.out w7 b7).cell 6; have z7 := (HBX.out w7 b7).cell 7; have z8 := (HBX.out w7 b7).cell 8; clear b7 C1)
  have HSL : Hid ((strC l).length = nl * 1) := ⟨by rw [Nat.mul_one, ← HNL.out]; simp [strC]⟩
  have HARG := Hid.mk (fun (X : World) (b : Below w7.heap.size w7 X) => show 0 < nl → ∃ ad, ga = some ad ∧ ∀ j u, (strC l)[j]? = some u → X.cell? (ad.add j) = some u from fun hn => by
    have bw := HLI.out _ B7.out
    obtain ⟨ga', ca', e, _, hx⟩ := HR.out.keeps (keeps_below (ok' := fun _ => True) (bw.trans (Joins.below_le b bw.size)) (fun _ _ => trivial))
    simp only [Value.slice.injEq] at e
    obtain ⟨rfl, _, rfl⟩ := e
    obtain ⟨g, off, rfl, _, hx⟩ := hx hn
    exact ⟨_, rfl, fun j u hj => by rw [add_spot]; exact hx j u hj⟩)
  have HX7 := Hid.mk (fun (X : World) (b : Below w7.heap.size w7 X) => B7.out.trans (Joins.below_le b B7.out.size))
  have HN1 := Hid.mk (fun (w1 : World) (b1 : Below ((w7.alloc (.cells #[.string (str nm)] 9)).alloc (.cells #[] 9)).drew.heap.size ((w7.alloc (.cells #[.string (str nm)] 9)).alloc (.cells #[] 9)).drew w1) => show 0 < 1 → ∃ ad, some (⟨w7.heap.size, 0, none⟩ : Addr) = some ad ∧ ∀ j u, [Value.string (str nm)][j]? = some u → w1.cell? (ad.add j) = some u from fun _ => ⟨_, rfl, by
    have c : Bx w1 w7.heap.size #[.string (str nm)] 9 := (b1.block _ (by show _ < ((w7.alloc _).alloc _).heap.size; simp; omega)).trans (((Joins.below_alloc1 (w7.alloc (.cells #[.string (str nm)] 9)) (.cells #[] 9)).block _ (by simp)).trans (heap_alloc_new w7 _))
    exact World.news_of_block c⟩)
  have HN2 := Hid.mk (fun (w1 : World) (b1 : Below ((w7.alloc (.cells #[] 9)).alloc (.cells #[.string (str nm)] 9)).drew.heap.size ((w7.alloc (.cells #[] 9)).alloc (.cells #[.string (str nm)] 9)).drew w1) => show 0 < 1 → ∃ ad, some (⟨w7.heap.size + 1, 0, none⟩ : Addr) = some ad ∧ ∀ j u, [Value.string (str nm)][j]? = some u → w1.cell? (ad.add j) = some u from fun _ => ⟨_, rfl, by
    have c0 := heap_alloc_new (w7.alloc (.cells #[] 9)) (.cells #[.string (str nm)] 9)
    rw [World.size_alloc] at c0
    have c : Bx w1 (w7.heap.size + 1) #[.string (str nm)] 9 := (b1.block _ (by show _ < ((w7.alloc _).alloc _).heap.size; simp)).trans c0
    exact World.news_of_block c⟩)
  have H63 : Hid (nl ≤ maxLen ∧ nl * 16 ≤ 140737488355328 ∧ nl + 1 ≤ maxLen ∧ (nl + 1) * 16 ≤ 140737488355328) := ⟨by have := HM.out.1; unfold maxLen; omega⟩
  have HRW := Hid.mk (fun (W : World) (bs : Nat) (v2 : Value) (h : RowS W bs 9 1 v2 (nl + 1) (strC l ++ [.string (str nm)])) => show IsRow W (fun g => g < W.heap.size) (strC (l ++ [nm])) (l ++ [nm]).length v2 from Nw.rowQ (z := bs) (by unfold Nw; rw [HLS.out, strC_snoc]; exact h) (by rw [HLS.out]; have := HM.out.1; omega) (fun g _ h => h))
  obtain ⟨i0, hi, hz0, hz1, hz2⟩ := info_parts info9
  generalize hf2 : (fl.filter fun y => !(y == nm)) = f2 at *
  have HFL2 := Hid.mk hf2
  clear hf2
  go_cut [6] from 11 to 46 (fun v wx => ∃ g8 c8, v = .slice g8 f2.length c8 ∧ Hid (Below w7.heap.size w7 wx) ∧ Hid (IsRow wx (fun _ => True) (strC f2) f2.length (.slice g8 f2.length c8)))
  case first =>
    go_region_held3 (fun w' => w'.cell? ⟨w.heap.size, 0, none⟩ = some (.slice ga nl ca) ∧ w'.cell? ⟨w.heap.size, 1, none⟩ = some (.int .i64 xk) ∧ w'.cell? ⟨w.heap.size, 2, none⟩ = some (.int .i64 xa) ∧ w'.cell? ⟨w.heap.size, 3, none⟩ = some (.string xs) ∧ w'.cell? ⟨w.heap.size, 4, none⟩ = some (.int .i64 xm) ∧ w'.cell? ⟨w.heap.size, 5, none⟩ = some (.slice g4 n4 c4) ∧ w'.cell? ⟨w.heap.size, 6, none⟩ = some (.slice g5 n5 c5) ∧ w'.cell? ⟨w.heap.size, 7, none⟩ = some (.slice g6 n6 c6) ∧ w'.cell? ⟨w.heap.size, 8, none⟩ = some (.slice g7 n7 c7)) (go_keep) (first
      | (go_at_call 11; refine (HF2.out _ _ (HLI.out _ (HX7.out _ BX2.out)) (HRW.out _ _ _ R17.out)).mono ?_; rintro e w8 ⟨r8, rfl, b8, R8, L8⟩; have BX8 := Hid.mk (BX2.out.trans (Joins.below_le b8 BX2.out.size)); have HR8 := Hid.mk R8; obtain ⟨g8, c8, rfl, hc8, -⟩ := R8; have s0 := (HBX.out w8 (HX7.out _ BX8.out)).cell 0; have s1 := (HBX.out w8 (HX7.out _ BX8.out)).cell 1; have s2 := (HBX.out w8 (HX7.out _ BX8.out)).cell 2; have s3 := (HBX.out w8 (HX7.out _ BX8.out)).cell 3; have s4 := (HBX.out w8 (HX7.out _ BX8.out)).cell 4; have s5 := (HBX.out w8 (HX7.out _ BX8.out)).cell 5; have s6 := (HBX.out w8 (HX7.out _ BX8.out)).cell 6; have s7 := (HBX.out w8 (HX7.out _ BX8.out)).cell 7; have s8 := (HBX.out w8 (HX7.out _ BX8.out)).cell 8; clear b8)
      | (have zz := R14; refine step_append_S rfl (.tmp 14) (.tmp 16) 22 rfl _ 9 i0 _ 1 16 Try.underlying22 hi hz0 hz1 hz2 rfl (by decide) _ nl (strC l) rfl (by first | exact R14.out | exact RowS.kept R14.out (Joins.below_alloc1 _ _)) _ 1 1 [.string (str nm)] rfl rfl (by first | exact NB.out | exact (fun _ => ⟨_, rfl, new_one⟩)) one_cell (nl + 1) rfl (strC l ++ [.string (str nm)]) rfl H63.out.2.2.1 H63.out.2.2.2 (by first | exact HBS.out | exact Nat.le_trans HBS.out (by simp)) ?_; intro ga2 cap2 w2 R2 b2; have R17 := Hid.mk R2; have BX2 : Hid (Below w7.heap.size w7 w2) := ⟨by first | exact BX1.out.trans (Joins.below_le b2 HBZ.out) | exact (BX1.out.alloc BX1.out.size _).trans (Joins.below_le b2 HBZ.out)⟩; have q0 := (HBX.out w2 (HX7.out _ BX2.out)).cell 0; have q1 := (HBX.out w2 (HX7.out _ BX2.out)).cell 1; have q2 := (HBX.out w2 (HX7.out _ BX2.out)).cell 2; have q3 := (HBX.out w2 (HX7.out _ BX2.out)).cell 3; have q4 := (HBX.out w2 (HX7.out _ BX2.out)).cell 4; have q5 := (HBX.out w2 (HX7.out _ BX2.out)).cell 5; have q6 := (HBX.out w2 (HX7.out _ BX2.out)).cell 6; have q7 := (HBX.out w2 (HX7.out _ BX2.out)).cell 7; have q8 := (HBX.out w2 (HX7.out _ BX2.out)).cell 8; clear R2 b2)
      | (refine step_append_S rfl (.tmp 11) (.tmp 13) 22 rfl _ 9 i0 _ 1 16 Try.underlying22 hi hz0 hz1 hz2 rfl (by decide) _ 0 [] rfl (.inl ⟨rfl, rfl, _, rfl⟩) ga nl ca (strC l) rfl HSL.out (HARG.out _ (by first | exact (Joins.below_alloc1 _ _).drew | exact ((Joins.below_alloc1 _ _).alloc (by simp) _).drew)) (strC_one l) nl (Nat.zero_add _) (strC l) rfl H63.out.1 H63.out.2.1 (Nat.le_refl _) ?_; intro ga1 cap1 w1 R1 b1; have R14 := Hid.mk R1; have BZ := join_two b1 (w7 := w7) (by first | exact (Joins.below_alloc1 _ _).drew | exact ((Joins.below_alloc1 _ _).alloc (by simp) _).drew); have BX1 := Hid.mk BZ.1; have HBZ := Hid.mk BZ.2; clear BZ; have HBS := Hid.mk b1.size; (first | have NB := Hid.mk (HN1.out _ b1) | have NB := Hid.mk (HN2.out _ b1) | have NB := Hid.mk trivial); have m0 := (HBX.out w1 (HX7.out _ BX1.out)).cell 0; have m1 := (HBX.out w1 (HX7.out _ BX1.out)).cell 1; have m2 := (HBX.out w1 (HX7.out _ BX1.out)).cell 2; have m3 := (HBX.out w1 (HX7.out _ BX1.out)).cell 3; have m4 := (HBX.out w1 (HX7.out _ BX1.out)).cell 4; have m5 := (HBX.out w1 (HX7.out _ BX1.out)).cell 5; have m6 := (HBX.out w1 (HX7.out _ BX1.out)).cell 6; have m7 := (HBX.out w1 (HX7.out _ BX1.out)).cell 7; have m8 := (HBX.out w1 (HX7.out _ BX1.out)).cell 8; clear R1 b1))
    all_goals go_wp2
    all_goals go_meet
    all_goals exact ⟨g8, c8, rfl, BX8, ⟨HR8.out.keeps ⟨fun _ _ _ _ h => h, fun _ _ => trivial⟩⟩⟩
  case rest =>
    obtain ⟨g8, c8, rfl, BX8, HR8⟩ := hcut
    have HRA := Hid.mk (fun (X : World) (b : Below wc.heap.size wc X) => HR7.out.keeps (keeps_below (ok' := fun _ => True) (BX8.out.trans (Joins.below_le b BX8.out.size)) (fun _ _ => trivial)))
    have HRB := Hid.mk (fun (X : World) (b : Below wc.heap.size wc X) => HR8.out.keeps (keeps_below (ok' := fun _ => True) b (fun _ _ => trivial)))
    have HEND := Hid.mk (fun (X : World) (b : Below wc.heap.size wc X) => HLI.out _ (HX7.out _ (BX8.out.trans (Joins.below_le b BX8.out.size))))
    have HLF : Hid (fl.length ≤ 2097152) := ⟨Nat.le_trans HL7.out HM.out.2⟩
    generalize hnf : fl.length = nf at *
    have HNF := Hid.mk hnf
    generalize hn2 : f2.length = n2 at *
    have HN2' := Hid.mk hn2
    have hz9 := HLF.out
    clear hnf hn2 HARG HN1 HN2 HX7 HR7 HR8 BX8 HBX HLI HF2 HR HRW HSL H63 HM HNL HLS B7 HL7 z0 z1 z2 z3 z4 z5 z6 z7 z8 L7
    go_wp2
    go_loopw [7, 8] (fun v c wr => ∃ i : Nat, c = .int .i64 i ∧ i ≤ nf ∧ Hid (Below wc.heap.size wc wr) ∧ Hid (Nw wr wc.heap.size v ((fl.take i).filter fun y => !(y == nm)))) (fun _ c _ => nf - (intOf c).toNat)
    case atStart => exact ⟨0, rfl, Nat.zero_le _, ⟨Below.refl _ _⟩, ⟨by rw [List.take_zero, List.filter_nil]; exact Nw.nil _ _⟩⟩
    case round =>
      obtain ⟨i, rfl, hii, HB, HW⟩ := hrel
      by_cases hlt : i < nf
      · have kl : i < fl.length := by rw [HNF.out]; exact hlt
        obtain ⟨gr', cr', e, _, hx⟩ := HRA.out _ HB.out
        simp only [Value.slice.injEq] at e
        obtain ⟨rfl, _, rfl⟩ := e
        obtain ⟨g, off, rfl, _, hx⟩ := hx (by omega)
        have c0 := hx i _ (strC_get fl i kl)
        have hlt' : (i : Int) < nf := by omega
        have qe := str_eqb (fl[i]'kl) nm
        have hfe : (fl.take (i + 1)).filter (fun y => !(y == nm)) = (fl.take i).filter (fun y => !(y == nm)) ++ [fl[i]'kl].filter (fun y => !(y == nm)) := by rw [← List.take_append_getElem kl, List.filter_append]
        cases q : (fl[i]'kl == nm)
        · rw [q] at qe
          rw [List.filter_cons, List.filter_nil, q, if_pos (by rfl)] at hfe
          have qn : ((str (fl[i]'kl)).toList != (str nm).toList) = true := by rw [bne, qe]; rfl
          have HFE := Hid.mk hfe
          have hlen : ((fl.take i).filter fun y => !(y == nm)).length ≤ i := Nat.le_trans (List.length_filter_le _ _) (by rw [List.length_take]; omega)
          have HO := HW.out
          unfold Nw at HO
          generalize hkk : ((fl.take i).filter fun y => !(y == nm)).length = kk at HO hlen
          have HKK := Hid.mk hkk
          have HOO := Hid.mk HO
          generalize fl[i]'kl = nmi at *
          have HMM : Hid (kk + 1 ≤ maxLen ∧ (kk + 1) * 16 ≤ 140737488355328) := ⟨by unfold maxLen; omega⟩
          have HA : Hid (Below wr.heap.size wr (wr.alloc (.cells #[.string (str nmi)] 9))) := ⟨Joins.below_alloc1 wr _⟩
          have sB := HB.out.size
          clear hfe hx q hkk HO HW hlen
          go_wp2_with (at_builtin; refine wpList_append_T rfl (.tmp 34) (.tmp 39) 22 rfl wc.heap.size 9 i0 _ 1 16 Try.underlying22 hi hz0 hz1 hz2 rfl (by decide) u7 kk (strC ((fl.take i).filter fun y => !(y == nm))) rfl (RowS.kept HOO.out HA.out) (some ⟨wr.heap.size, 0, none⟩) 1 1 [.string (str nmi)] rfl rfl (fun _ => ⟨_, rfl, new_one⟩) one_cell (kk + 1) rfl (strC ((fl.take i).filter fun y => !(y == nm)) ++ [.string (str nmi)]) rfl HMM.out.1 HMM.out.2 (Nat.le_trans sB HA.out.size) ?_; intro g1 c1 w1 R1 B1; have HR1 := Hid.mk R1; have HB1 : Hid (Below wc.heap.size wc w1) := ⟨(HB.out.trans (Joins.below_le HA.out sB)).trans B1⟩; clear R1 B1)
          refine ⟨⟨i + 1, by go_num, by omega, HB1, ⟨?_⟩⟩, by simp [intOf]; omega⟩
          unfold Nw
          rw [HFE.out, strC_snoc, List.length_append, HKK.out]
          exact HR1.out
        · rw [q] at qe
          rw [List.filter_cons, List.filter_nil, q, if_neg (by simp), List.append_nil] at hfe
          have qn : ((str (fl[i]'kl)).toList != (str nm).toList) = false := by rw [bne, qe]; rfl
          have HFE := Hid.mk hfe
          generalize fl[i]'kl = nmi at *
          clear hfe hx q
          go_wp2
          exact ⟨⟨i + 1, by go_num, by omega, HB, ⟨by rw [HFE.out]; exact HW.out⟩⟩, by simp [intOf]; omega⟩
      · obtain rfl : i = nf := by omega
        have W1 := HW.out
        rw [List.take_of_length_le (by rw [HNF.out]; omega), HFL2.out] at W1
        obtain ⟨gw, cw, rfl⟩ := W1.form
        have hf2 : f2.length ≤ 1000000000 := by rw [← HFL2.out]; exact Nat.le_trans (List.length_filter_le _ _) (by rw [HNF.out]; omega)
        have HS := Hid.mk (fun (X : World) (b : Below wr.heap.size wr X) => show Calls Try.prog 12 #[.slice g8 n2 c8, .slice gw f2.length cw] X (fun e w' => e = .returned (.bool true) ∧ Below X.heap.size X w') from by
          have bb := HB.out.trans (Joins.below_le b HB.out.size)
          refine same_any (ok := fun _ => True) (ok' := fun _ => True) f2 _ _ ?_ ?_
          · have := HRB.out _ bb
            rwa [← HN2'.out] at this ⊢
          · exact (W1.below b).row hf2 (fun _ _ => trivial))
        have HEW := Hid.mk (fun (X : World) (b : Below wr.heap.size wr X) => HEND.out _ (HB.out.trans (Joins.below_le b HB.out.size)))
        clear W1 HW HRA HRB HEND HB hf2
        go_wp2_with (first
          | (go_at_call 12; refine (HS.out _ BA.out).mono ?_; rintro e w10 ⟨rfl, b10⟩; have BE := Hid.mk (HEW.out _ (BA.out.trans (Joins.below_le b10 BA.out.size))); clear b10)
          | (go_at_call 8; refine (HAW.out _).mono ?_; rintro e w9 ⟨rfl, b9⟩; have BA := Hid.mk b9; clear b9))
        go_ret
        exact ⟨rfl, BE.out⟩
end Go.Proofs.Ytmlegdnenklkhaa
