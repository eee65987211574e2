/- Package tree's parser: programs. -/
import Derived.Test.YtoedeedoecdajaaDoorExpall
import Derived.Test.YtoedeedoecdajaaDoorDatas
import Derived.Test.YtoedeedoecdajaaDoorTreeJoin
namespace Go.Proofs.YtoedeedoecdajaaDoor
open Go.RowKit
set_option linter.unusedVariables false
set_option linter.unusedSimpArgs false

def datasK (ds : List D) (l : List Tok) : PR (List D) := andT (pDatas (l.length + 1) l) fun ds' r => .ok (ds ++ ds', r)
theorem datasK_end (ds : List D) (l : List Tok) (h : isS [100, 97, 116, 97] l = false) : datasK ds l = .ok (ds, l) := by
  simp [datasK, pDatas, h, andT]
theorem pData_le {l r : List Tok} {d : D} (h : pData l = .ok (d, r)) : r.length < l.length := by
  unfold pData at h
  obtain ⟨c, r1, h1, h⟩ := andT_ok h
  obtain ⟨u, r2, h2, h⟩ := andT_ok h
  obtain ⟨_, r3, h3, h⟩ := andT_ok h
  obtain ⟨e1, _⟩ := pKind_eats h1
  obtain ⟨e2, _⟩ := pKind_eats h2
  obtain ⟨_, v, e3⟩ := pWant_eats h3
  cases h
  subst e1 e2 e3
  simp only [List.length_cons]
  omega
theorem datasK_more (ds : List D) (t : Tok) (q : List Tok) (h : isS [100, 97, 116, 97] (t :: q) = true) : datasK ds (t :: q) = andT (pData q) fun d r => datasK (ds ++ [d]) r := by
  unfold datasK
  rw [datas_step _ h]
  rcases e : pData q with x | ⟨d, r⟩
  · rfl
  · have := pData_le e
    simp only [andT]
    rw [datas_more (t :: q).length (r.length + 1) r (by simp only [List.length_cons]; omega) (by omega)]
    rcases pDatas (r.length + 1) r with x | ⟨ds', r'⟩
    · rfl
    · simp
def bindsK (bs : List B) (l : List Tok) : PR (List B) := andT (pBinds (l.length + 1) l) fun bs' r => .ok (bs ++ bs', r)
theorem bindsK_end (bs : List B) : bindsK bs [] = .ok (bs, []) := by simp [bindsK, pBinds, andT]
theorem bindsK_more (bs : List B) (t : Tok) (q : List Tok) : bindsK bs (t :: q) = andT (pBind (pExp 60) (t :: q)) fun x r => bindsK (bs ++ [x]) r := by
  unfold bindsK
  simp only [pBinds]
  rcases e : pBind (pExp 60) (t :: q) with x | ⟨d, r⟩
  · rfl
  · have := bind_eats 60 _ _ _ e
    simp only [andT]
    rw [binds_more (t :: q).length (r.length + 1) r (by omega) (by omega)]
    rcases pBinds (r.length + 1) r with x | ⟨ds', r'⟩
    · rfl
    · simp
theorem prog_K (l : List Tok) : pProg l = andT (datasK [] l) fun ds r => andT (bindsK [] r) fun bs r => .ok (⟨ds, bs⟩, r) := by
  unfold pProg datasK bindsK
  rcases pDatas (l.length + 1) l with x | ⟨ds, r⟩
  · rfl
  · simp only [andT, List.nil_append]
    rcases pBinds (r.length + 1) r with x | ⟨bs, r'⟩ <;> rfl
/-- a program: two rows -/
def isPV (w : World) (ok : Nat → Prop) (p : Pg) (v : Value) : Prop := ∃ vd vb xb, v = .agg #[vd, vb] ∧ IsRow w ok (datC p.datas) p.datas.length vd ∧ IsRow w ok xb p.binds.length vb ∧ isBs w ok p.binds xb
theorem info55 : (Tryd.prog.info? 55).map (fun i => (i.zero, i.size, i.bytes)) = some (some (.agg #[.string ⟨#[]⟩, .int .i64 0, .int .i64 0]), 3, 32) := by kernel_rfl
theorem size25 : (Tryd.prog.info? 25).map (·.size) = some 2 := by kernel_rfl
theorem datC_snoc (l : List D) (d : D) : datC (l ++ [d]) = datC l ++ [.string (str d.name), .int .i64 d.arity, .int .i64 d.at'] := by simp [datC]
def DatI (w wr : World) (b X : Nat) (n : Int) (Q : PR (List D)) : Prop :=
  ∃ ds l' vd, Ob w wr b w.heap.size X n l' #[nil3, nil3] 25 #[vd, nil3] 25 ∧ Hid (datasK ds l' = Q) ∧ ds.length + l'.length ≤ 16384 ∧ wr.ownsRow (X + 1) 55 3 vd ds.length (datC ds)
def BinI (w wr : World) (b X : Nat) (n : Int) (ds : List D) (vd : Value) (Q : PR (List B)) : Prop :=
  ∃ bs l' vb xb, Ob w wr b w.heap.size X n l' #[nil3, nil3] 25 #[vd, vb] 25 ∧ Hid (bindsK bs l' = Q) ∧ bs.length + l'.length ≤ 16384 ∧ wr.ownsRow (X + 1) 51 11 vb bs.length xb ∧ Hid (isBs wr (inn X wr vb) bs xb) ∧ wr.ownsRow (X + 1) 55 3 vd ds.length (datC ds) ∧ Hid (∀ g, vd.ownBlock = some g → inn X wr vb g)
set_option maxRecDepth 100000 in
set_option maxHeartbeats 8000000 in
theorem program_any {w : World} {b : Nat} {l : List Tok} {n : Int} (R : Rd w b l n 0) :
    Calls Tryd.prog 23 #[ptr b] w (Ans b n w isPV (pProg l)) := by
  have lt := R.lt
  have len := R.len
  rw [prog_K]
  obtain ⟨Q, hQ⟩ : ∃ Q, datasK [] l = Q := ⟨_, rfl⟩
  have HQ0 : Hid (datasK [] l = Q) := ⟨hQ⟩
  rw [hQ]
  clear hQ
  obtain ⟨P, hP⟩ : ∃ P : PR Pg, (andT Q fun ds r => andT (bindsK [] r) fun bs r => .ok (⟨ds, bs⟩, r)) = P := ⟨_, rfl⟩
  have HP : Hid (P = andT Q fun ds r => andT (bindsK [] r) fun bs r => .ok (⟨ds, bs⟩, r)) := ⟨hP.symm⟩
  rw [hP]
  clear hP
  have O0 : Ob w ((w.alloc (.cells #[nil3, nil3] 25)).alloc (.cells #[nil3, nil3] 25)) b w.heap.size (w.heap.size + 1) n l #[nil3, nil3] 25 #[nil3, nil3] 25 :=
    ⟨(R.alloc _).alloc _, ((Fr.refl b w).alloc _).alloc _, (Blk.fresh w _ _).alloc _, (by have := Blk.fresh (w.alloc (.cells #[nil3, nil3] 25)) #[nil3, nil3] 25; simpa using this), ⟨lt, Nat.le_refl _, by omega⟩⟩
  clear R
  go_enter Tryd.func23, Tryd.ntmps23
  go_wp2
  generalize hX : w.heap.size + 1 = X at *
  have hbX : b ≤ X := by omega
  clear hX
  go_loopw [] (fun wr => DatI w wr b X n Q) (fun wr => leftN wr b)
  case atStart => exact ⟨[], l, nil3, O0, HQ0, by simpa using len, World.ownsRow_nil _ _ _ _⟩
  case round =>
    clear O0 HQ0 len
    obtain ⟨ds, l', vd, O, HQK, hl, OW⟩ := hrel
    have ST := stands_any O.rd (s := [100, 97, 116, 97]) (by decide) (by decide)
    rw [show str [100, 97, 116, 97] = ⟨#[100, 97, 116, 97]⟩ from rfl] at ST
    have HL : Hid (leftN wr b = l'.length) := ⟨O.rd.left⟩
    by_cases hst : isS [100, 97, 116, 97] l' = true
    · cases l' with
      | nil => cases hst
      | cons t q =>
      rw [hst] at ST
      have HQ2 : Hid (Q = andT (pData q) fun d r => datasK (ds ++ [d]) r) := ⟨by rw [← HQK.out]; exact datasK_more ds t q hst⟩
      have BI := fun o => data_any ((O.rd.alloc o).drew) hst
      simp only [List.length_cons] at hl HL
      clear HQK hst
      have HO0 : Hid (Ob w wr b w.heap.size X n (t :: q) #[nil3, nil3] 25 #[vd, nil3] 25) := ⟨O⟩
      clear O
      go_wp2_with (first
        | (go_at_call_of 35 (Value.string { data := #[100, 97, 116, 97] }); refine ST.mono ?_; rintro e w5 ⟨rfl, o5, rfl⟩))
      have BI := BI o5
      have O := HO0.out.alloc o5
      have OW := OW.alloc o5
      clear HO0 ST
      generalize wr.alloc o5 = W at *
      have x5 : W.cell? ⟨X, 0, none⟩ = some vd := O.x.cell 0
      have HO : Hid (Ob w W b w.heap.size X n (t :: q) #[nil3, nil3] 25 #[vd, nil3] 25) := ⟨O⟩
      obtain ⟨i0, hi, hz0, hz1, hz2⟩ := info_parts info55
      clear O
      go_region_law (first
        | (refine step_append_lies _ (by rfl) _ _ _ (by rfl) (X + 1) 55 i0 _ 3 32 Tryd.underlying22 hi hz0 hz1 hz2 rfl (by decide) vd ds.length (datC ds) (by rfl) (own_alloc OW4 _) ⟨_, 0, none⟩ 1 1 [.string (str x4.name), .int .i64 x4.arity, .int .i64 x4.at'] (by rfl) rfl (World.news_of_block (heap_alloc_new _ _)) (by simp [Value.oneCell']) (by decide) (by unfold maxLen; omega) (by omega) (by simp; omega) _ rfl ?_; intro q5 cap5 w5 ho hg hat hlt; have O5 := (O4.alloc _).row (own_alloc OW4 _) hg; have y5 : w5.cell? ⟨X, 0, none⟩ = some vd := O5.x.cell 0; have z5 : w5.frozen? ⟨X, 0, none⟩ = false := O5.x.z 0; clear hg hat hlt)
        | (go_simp; go_at_call 36; refine BI.mono ?_; intro e w4 h4; rcases h4.cases.symm with ⟨c4, r4, hp4, rfl, F4, R4⟩ | ⟨x4, r4, v4, hp4, rfl, F4, rfl, R4⟩; exact ⟨rfl, Ans.of_err (HO.out.fr.drew.trans F4) R4 (by rw [HP.out, HQ2.out, hp4]; rfl)⟩; have HP4 : Hid (_ = _) := ⟨hp4⟩; have O4 := (HO.out.drew).call F4 R4; have OW4 := own_call (OW.drew) F4 hbX; have y4 : w4.cell? ⟨X, 0, none⟩ = some vd := O4.x.cell 0; have lt4 := O4.lts.2.2; clear F4 R4 hp4 h4))
      all_goals go_wp2
      all_goals
        have e4 := pData_le HP4.out
        refine ⟨⟨ds ++ [x4], r4, .slice (some ⟨q5, 0, none⟩) (ds.length + 1) cap5, O5.store 0 _, ⟨by rw [HQ2.out, HP4.out]; rfl⟩, by simp; omega, by rw [List.length_append, datC_snoc]; exact own_store ho 0 _⟩, ?_⟩
        rw [(O5.store 0 _).rd.left, HL.out]
        omega
    · have hst : isS [100, 97, 116, 97] l' = false := by simpa using hst
      rw [hst] at ST
      have HQE : Hid (Q = .ok (ds, l')) := ⟨by rw [← HQK.out]; exact datasK_end ds l' hst⟩
      obtain ⟨Q2, hQ2⟩ : ∃ Q2, bindsK [] l' = Q2 := ⟨_, rfl⟩
      have HQ20 : Hid (bindsK [] l' = Q2) := ⟨hQ2⟩
      have HP2 : Hid (P = andT Q2 fun bs r => .ok (⟨ds, bs⟩, r)) := ⟨by rw [HP.out, HQE.out, ← hQ2]; rfl⟩
      clear hQ2 HQE HQK hst HL HP
      have hl1 : l'.length ≤ 16384 := O.rd.len
      have HO0 : Hid (Ob w wr b w.heap.size X n l' #[nil3, nil3] 25 #[vd, nil3] 25) := ⟨O⟩
      clear O
      go_wp2_with (first
        | (go_at_call_of 35 (Value.string { data := #[100, 97, 116, 97] }); refine ST.mono ?_; rintro e w5 ⟨rfl, o5, rfl⟩))
      have O := HO0.out.alloc o5
      have OD := OW.alloc o5
      clear HO0 ST OW
      generalize wr.alloc o5 = W0 at *
      go_loopw [] (fun wr => BinI w wr b X n ds vd Q2) (fun wr => leftN wr b)
      case atStart => exact ⟨[], l', nil3, [], O, HQ20, by simpa using hl1, World.ownsRow_nil _ _ _ _, ⟨by simp only [isBs]⟩, OD, ⟨fun g hg => ⟨by have := (OD.lt g hg).1; omega, (OD.lt g hg).2, by simp [Value.ownBlock]⟩⟩⟩
      case round =>
        have hds : ds.length ≤ 16384 := by omega
        clear O HQ20 OD hl1 hl
        obtain ⟨bs, l2, vb, xb, O, HQK, hl, OW, HIB, OD, HID⟩ := hrel
        have HL : Hid (leftN wr b = l2.length) := ⟨O.rd.left⟩
        obtain ⟨ga, cap, c0, _⟩ := O.rd.c0
        cases l2 with
        | nil =>
          simp only [List.length_nil] at c0
          have HPE : Hid (P = .ok (⟨ds, bs⟩, [])) := ⟨by rw [HP2.out, ← HQK.out, bindsK_end]; rfl⟩
          obtain ⟨gd, cd, rfl⟩ := own_form OD
          obtain ⟨gb, cb, rfl⟩ := own_form OW
          have ltb := O.lts
          have HO : Hid (Ob w wr b w.heap.size X n [] #[nil3, nil3] 25 #[.slice gd ds.length cd, .slice gb bs.length cb] 25) := ⟨O⟩
          clear O HQK HL
          go_wp2_with (first
            | (refine wpList_load_row rfl 25 _ rfl X rfl 25 _ (0, 0) _ HO.out.x Tryd.underlying25 rfl size25 ?_)
            | (refine wpList_store_row rfl 25 _ _ rfl w.heap.size _ rfl rfl 25 _ HO.out.m size25 rfl (by simp [Value.oneCell']) ?_))
          have OO := HO.out
          have oo := OO.out #[.slice gd ds.length cd, .slice gb bs.length cb]
          have lo := OO.lo
          have OWF := own_kept OW (grown_setRow wr w.heap.size #[.slice gd ds.length cd, .slice gb bs.length cb]) (by omega)
          have ODF := own_kept OD (grown_setRow wr w.heap.size #[.slice gd ds.length cd, .slice gb bs.length cb]) (by omega)
          rw [HPE.out]
          refine bodyPost_ret (results_cell_row Tryd.results23 _ _ w.heap.size 25 #[.slice gd ds.length cd, .slice gb bs.length cb] (0, 0) _ rfl OO.m.set Tryd.underlying25 rfl size25) rfl (Ans.ok oo.1 oo.2 ?_)
          exact ⟨_, _, xb, rfl, own_new ODF (by omega) (by dsimp only; omega), own_new OWF (by omega) (by dsimp only; simp only [List.length_nil] at hl; omega), isBs_keeps (keeps_hand (by omega) (by omega)) bs xb HIB.out⟩
        | cons t q =>
          simp only [List.length_cons] at c0 hl HL
          have HQ2 : Hid (Q2 = andT (pBind (pExp 60) (t :: q)) fun x r => bindsK (bs ++ [x]) r) := ⟨by rw [← HQK.out]; exact bindsK_more bs t q⟩
          have BI := bind_any (exp_all 60 (by decide)) (k := 1) (by decide) O.rd.drew
          have zl : (0 : Int) < q.length + 1 := by omega
          have x5 : wr.cell? ⟨X, 1, none⟩ = some vb := O.x.cell 1
          have ltb := O.lts
          have HO : Hid (Ob w wr b w.heap.size X n (t :: q) #[nil3, nil3] 25 #[vd, vb] 25) := ⟨O⟩
          have hvb : ∀ i, vb.ownBlock = some i → i < wr.drew.heap.size := fun i hi => (OW.lt i hi).2
          have hXs : X < wr.heap.size := O.lts.2.2
          obtain ⟨i0, hi, hz0, hz1, hz2⟩ := info_parts info51
          clear O HQK
          go_wp2
          go_region_law (first
            | (refine step_append_lies _ (by rfl) _ _ _ (by rfl) (X + 1) 51 i0 _ 11 184 Tryd.underlying23 hi hz0 hz1 hz2 rfl (by decide) vb bs.length xb (by rfl) (own_alloc OW4 _) ⟨_, 0, none⟩ 1 1 [.string s0, .int .i64 a0, .slice g3 n3 c3, .int .i64 k0, .int .i64 a1, .string s1, .int .i64 m1, .slice g4 n4 c4, .slice g5 n5 c5, .slice g6 n6 c6, .slice g7 n7 c7] (by rfl) rfl (World.news_of_block (heap_alloc_new _ _)) (by simp [Value.oneCell']) (by decide) (by unfold maxLen; omega) (by omega) (by simp; omega) _ rfl ?_; intro q5 cap5 w5 ho hg hat hlt; have O5 := (O4.alloc _).row (own_alloc OW4 _) hg; have y5 : w5.cell? ⟨X, 1, none⟩ = some vb := O5.x.cell 1; have z5 : w5.frozen? ⟨X, 1, none⟩ = false := O5.x.z 1; have KO := keeps_old (j := 1) (u := .slice (some ⟨q5, 0, none⟩) (bs.length + 1) cap5) (m := bs.length + 1) (cap := cap5) ((Fr.refl b wr).drew.trans HF4.out) hbX hg hat; have KN := keeps_new (j := 1) (u := .slice (some ⟨q5, 0, none⟩) (bs.length + 1) cap5) (m := bs.length + 1) (cap := cap5) (X := X) hvb hXs HF4.out.size hg hat; have OD5 := own_store ((own_alloc OD4 _).kept hg (by rcases hv : vd.ownBlock with _ | i; exact .inl rfl; exact .inr (fun e => (HID.out i hv).2.2 e.symm))) 1 (.slice (some ⟨q5, 0, none⟩) (bs.length + 1) cap5); clear hg hat hlt)
            | (go_simp; go_at_call 37; refine BI.mono ?_; intro e w4 h4; rcases h4.cases.symm with ⟨c4, r4, hp4, rfl, F4, R4⟩ | ⟨x4, r4, v4, hp4, rfl, F4, ⟨c, rfl, I4⟩, R4⟩; exact ⟨rfl, Ans.of_err (HO.out.fr.drew.trans F4) R4 (by rw [HP2.out, HQ2.out, hp4]; rfl)⟩; obtain ⟨k0, a1, m1, a0, s1, s0, g3, g4, g5, g6, g7, n3, n4, n5, n6, n7, c3, c4, c5, c6, c7, rfl⟩ := isB_eleven I4; have HI4 : Hid (isB _ _ _ _) := ⟨I4⟩; have HP4 : Hid (_ = _) := ⟨hp4⟩; have O4 := (HO.out.drew).call F4 R4; have OW4 := own_call (OW.drew) F4 hbX; have OD4 := own_call (OD.drew) F4 hbX; have HF4 : Hid (Fr b wr.drew w4) := ⟨F4⟩; have y4 : w4.cell? ⟨X, 1, none⟩ = some vb := O4.x.cell 1; have lt4 := O4.lts.2.2; clear F4 R4 I4 hp4 h4))
          all_goals go_wp2
          all_goals
            have e4 := bind_eats 60 _ _ _ HP4.out
            simp only [List.length_cons] at e4
            refine ⟨⟨bs ++ [x4], r4, .slice (some ⟨q5, 0, none⟩) (bs.length + 1) cap5, xb ++ [.string s0, .int .i64 a0, .slice g3 n3 c3, .int .i64 k0, .int .i64 a1, .string s1, .int .i64 m1, .slice g4 n4 c4, .slice g5 n5 c5, .slice g6 n6 c6, .slice g7 n7 c7], O5.store 1 _, ⟨by rw [HQ2.out, HP4.out]; rfl⟩, by simp; omega, by rw [List.length_append]; exact own_store ho 1 _, ⟨isBs_snoc bs x4 xb _ (isBs_keeps KO bs xb HIB.out) (isB_keeps KN x4 _ HI4.out)⟩, OD5, ⟨fun g hg => KO.ok g (HID.out g hg)⟩⟩, ?_⟩
            rw [(O5.store 1 _).rd.left, HL.out]
            omega

end Go.Proofs.YtoedeedoecdajaaDoor
