/- Package show's printer: programs. -/
import Derived.Test.YtofgnpehlheeiaaGreatDoorPExp
namespace Go.Proofs.YtofgnpehlheeiaaGreatDoor
open Go.RowKit
set_option linter.unusedVariables false
set_option linter.unusedSimpArgs false

/-- the places behind each of some rows of tokens -/
def endsOf : Nat → List (List ATok) → List Nat
  | _, [] => []
  | n, x :: r => (n + x.length) :: endsOf (n + x.length) r
theorem endsOf_snoc : ∀ (L : List (List ATok)) (x : List ATok) (n : Nat), endsOf n (L ++ [x]) = endsOf n L ++ [n + L.flatten.length + x.length]
  | [], x, n => by simp [endsOf]
  | y :: L, x, n => by
    simp only [List.cons_append, endsOf, endsOf_snoc L x, List.flatten_cons, List.length_append]
    rw [show n + y.length + L.flatten.length + x.length = n + (y.length + L.flatten.length) + x.length by omega]
def oneL : OT → Except Int (List (List ATok))
  | .ok y => .ok [y]
  | .error e => .error e
def seqL (a b : Except Int (List (List ATok))) : Except Int (List (List ATok)) :=
  match a with
  | .ok x => (match b with
    | .ok y => .ok (x ++ y)
    | .error e => .error e)
  | .error e => .error e
theorem linesO_seq (p : Pg) : linesO p = seqL (oLs oData p.datas) (oLs (oB (oE 60)) p.binds) := by
  unfold linesO seqL
  rcases oLs oData p.datas with e | x
  · rfl
  · rcases oLs (oB (oE 60)) p.binds with e | y <;> rfl
theorem seqL_nil (a : Except Int (List (List ATok))) : seqL a (.ok []) = a := by
  rcases a with e | x <;> simp [seqL]
theorem nil_seqL (a : Except Int (List (List ATok))) : seqL (.ok []) a = a := by
  rcases a with e | x <;> simp [seqL]
theorem oLs_snoc {α : Type} (f : α → OT) : ∀ (l : List α) (x : α), oLs f (l ++ [x]) = seqL (oLs f l) (oneL (f x))
  | [], x => by
    simp only [List.nil_append, oLs]
    rcases f x with e | y <;> rfl
  | y :: l, x => by
    simp only [List.cons_append, oLs]
    rw [oLs_snoc f l x]
    rcases f y with e | z
    · rfl
    · rcases oLs f l with e | u
      · rfl
      · rcases f x with e | v <;> rfl
theorem oLs_take {α : Type} (f : α → OT) (l : List α) (i : Nat) (h : i < l.length) : oLs f (l.take (i + 1)) = seqL (oLs f (l.take i)) (oneL (f (l[i]'h))) := by
  rw [List.take_succ_eq_append_getElem h, oLs_snoc]
theorem seqL_assoc (a b c : Except Int (List (List ATok))) : seqL (seqL a b) c = seqL a (seqL b c) := by
  rcases a with e | x
  · rfl
  · rcases b with e | y
    · rfl
    · rcases c with e | z
      · rfl
      · simp [seqL]
/-- what stands in the printer behind some rows -/
def LAft (o : Except Int (List (List ATok))) (ts : List ATok) (es : List Nat) (e : Int) : Prop :=
  match o with
  | .ok L => e = 0 ∧ ts = L.flatten ∧ es = endsOf 0 L
  | .error c => e = c ∧ c ≠ 0
theorem LAft.step {o : Except Int (List (List ATok))} {ts ts' : List ATok} {es : List Nat} {e e' : Int} {x : OT} (h : LAft o ts es e) (k : Aft ts e x ts' e') :
    LAft (seqL o (oneL (x))) ts' (es ++ [ts'.length]) e' := by
  rcases o with c | L
  · obtain ⟨rfl, hc⟩ := h
    exact ⟨k.1 hc, hc⟩
  · obtain ⟨rfl, rfl, rfl⟩ := h
    have k2 := k.2 rfl
    rcases x with c | l
    · exact k2
    · simp only at k2
      obtain ⟨rfl, rfl⟩ := k2
      refine ⟨rfl, by simp, ?_⟩
      rw [endsOf_snoc, List.length_append, Nat.zero_add]
theorem own_form {W : World} {base size m : Nat} {e : TypeId} {v : Value} {xs : List Value} (h : W.ownsRow base e size v m xs) : ∃ ga cap, v = .slice ga m cap := by
  rcases h.2 with ⟨rfl, h0⟩ | ⟨g, cap, cur, rfl, _⟩
  · exact ⟨none, 0, by rw [h0]⟩
  · exact ⟨_, _, rfl⟩
theorem info3 : (Tryz.prog.info? 3).map (fun i => (i.zero, i.size, i.bytes)) = some (some (.int .i64 0), 1, 8) := by kernel_rfl
theorem ends_end {w W W1 : World} {b : Nat} {ts : List ATok} {es : List Nat} {e : Int} {v : Value} {n : Nat} {q cap : Nat} (P : Pr w b ts es e) (hc : w.cell? ⟨b, 1, none⟩ = some v) (hB : Below w.heap.size w W)
    (hO : W.ownsRow (b + 1) 3 1 v es.length (endC es)) (hg : W.grownBy W1 v.ownBlock) (ho : W1.ownsRow (b + 1) 3 1 (.slice (some ⟨q, 0, none⟩) (es.length + 1) cap) (es.length + 1) (endC es ++ [.int .i64 (n : Int)])) :
    Pr (W1.setCell ⟨b, 1, none⟩ (.slice (some ⟨q, 0, none⟩) (es.length + 1) cap)) b ts (es ++ [n]) e ∧ Fp b w (W1.setCell ⟨b, 1, none⟩ (.slice (some ⟨q, 0, none⟩) (es.length + 1) cap)) := by
  have PW := P.below hB
  have F1 : Fp b w W1 := ((Fp.refl b w).below hB).row hO (.inr rfl) hg
  have nb : some b ≠ v.ownBlock := fun z => by have := (own_type hO z.symm).1; omega
  obtain ⟨v', a0, o0⟩ := PW.c0
  obtain ⟨u, a1, o1⟩ := PW.c1
  have a1' := hg.cell a1 nb
  refine ⟨⟨⟨v', ?_, ?_⟩, ⟨_, set_same a1', ?_⟩, ?_, fun j => ?_, P.fit, ?_⟩, F1.set 1 _⟩
  · rw [set_other (off_ne (by decide))]
    exact hg.cell a0 nb
  · exact ownsRow_setCell_below (own_apart o0 hO (by decide) hg) (Nat.lt_succ_self _) _
  · rw [List.length_append, endC_snoc]
    exact ownsRow_setCell_below ho (Nat.lt_succ_self _) _
  · rw [set_other (off_ne (by decide))]
    exact hg.cell PW.c2 nb
  · rw [World.frozen?_setCell, World.frozen?_of_block (hg.block b PW.lt nb)]
    exact PW.z j
  · exact laid_set P _ ((F1.set 1 _).low' (Nat.le_of_lt P.lt))
theorem wtDs_len : ∀ l : List D, l.length ≤ wtDs l
  | [] => Nat.le_refl _
  | d :: r => by have := wtDs_len r; simp only [wtDs, wtD, List.length_cons]; omega
theorem wtBs_len : ∀ l : List B, l.length ≤ wtBs l
  | [] => Nat.le_refl _
  | .mk n a az x :: r => by have := wtBs_len r; simp only [wtBs, wtB, List.length_cons]; omega
theorem dat_at {w : World} {ds : List D} {g off : Nat} (hx : ∀ j u, (datC ds)[j]? = some u → w.cell? ⟨g, off + j, none⟩ = some u) (i : Nat) (h : i < ds.length) :
    w.cell? ⟨g, off + i * 3, none⟩ = some (.string (str (ds[i]'h).name)) ∧ w.cell? ⟨g, off + i * 3 + 1, none⟩ = some (.int .i64 (ds[i]'h).arity) ∧ w.cell? ⟨g, off + i * 3 + 2, none⟩ = some (.int .i64 (ds[i]'h).at') := by
  have G : ∀ (l : List D) (i : Nat) (h : i < l.length), (datC l)[i * 3]? = some (.string (str (l[i]'h).name)) ∧ (datC l)[i * 3 + 1]? = some (.int .i64 (l[i]'h).arity) ∧ (datC l)[i * 3 + 2]? = some (.int .i64 (l[i]'h).at') := by
    intro l
    induction l with
    | nil => intro i h; exact absurd h (Nat.not_lt_zero _)
    | cons a r ih =>
      intro i h
      have e : datC (a :: r) = .string (str a.name) :: .int .i64 a.arity :: .int .i64 a.at' :: datC r := by simp [datC]
      cases i with
      | zero => rw [e]; exact ⟨rfl, rfl, rfl⟩
      | succ i =>
        have := ih i (by simpa using h)
        rw [e, show (i + 1) * 3 = i * 3 + 1 + 1 + 1 by omega]
        simp only [List.getElem?_cons_succ, List.getElem_cons_succ]
        exact this
  obtain ⟨a, b, c⟩ := G ds i h
  exact ⟨hx _ _ a, by rw [Nat.add_assoc]; exact hx _ _ b, by rw [Nat.add_assoc]; exact hx _ _ c⟩
/-- a program in memory -/
def isPV (w : World) (ok : Nat → Prop) (p : Pg) (v : Value) : Prop := ∃ vd vb xb, v = .agg #[vd, vb] ∧ IsRow w ok (datC p.datas) p.datas.length vd ∧ IsRow w ok xb p.binds.length vb ∧ isBs w ok p.binds xb

set_option maxRecDepth 100000 in
set_option maxHeartbeats 16000000 in
theorem program_any {w : World} {b : Nat} (P : Pr w b [] [] 0) (p : Pg) (v : Value) (I : isPV w (fun g => g < b) p v) (hf : finP p) (hn : wtP p ≤ 1900000) :
    Calls Tryz.prog 9 #[ptr b, v] w fun r w' => r = done ∧ Fp b w w' ∧ ∃ ts es e, Pr w' b ts es e ∧ LAft (linesO p) ts es e ∧ ts.length ≤ wtP p := by
  obtain ⟨vd, vb, xb, rfl, ID, IB, IBS⟩ := I
  obtain ⟨gd, cd, rfl⟩ := row_len ID
  obtain ⟨gb, cb, rfl⟩ := row_len IB
  have HD : Hid (IsRow w (fun g => g < b) (datC p.datas) p.datas.length (.slice gd p.datas.length cd)) := ⟨ID⟩
  have HBB : Hid (IsRow w (fun g => g < b) xb p.binds.length (.slice gb p.binds.length cb) ∧ isBs w (fun g => g < b) p.binds xb) := ⟨⟨IB, IBS⟩⟩
  have HFD : Hid (∀ d ∈ p.datas, In64 d.arity) := ⟨hf.1⟩
  have HFB : Hid (finBs p.binds) := ⟨hf.2⟩
  have HHE : Hid (ExpD 60) := ⟨exp_all 60⟩
  have hwd := wtDs_len p.datas
  have hwb := wtBs_len p.binds
  have lt := P.lt
  have F0 := (Fp.refl b w).alloc (.cells #[.slice gd p.datas.length cd, .slice gb p.binds.length cb] 25)
  have X0 := Blk.fresh w #[.slice gd p.datas.length cd, .slice gb p.binds.length cb] 25
  have P0 := P.alloc (.cells #[.slice gd p.datas.length cd, .slice gb p.binds.length cb] 25)
  unfold wtP at hn ⊢
  rw [linesO_seq]
  obtain ⟨nd, hnd⟩ : ∃ nd, p.datas.length = nd := ⟨_, rfl⟩
  obtain ⟨nb, hnb⟩ : ∃ nb, p.binds.length = nb := ⟨_, rfl⟩
  have HND : Hid (p.datas.length = nd) := ⟨hnd⟩
  have HNB : Hid (p.binds.length = nb) := ⟨hnb⟩
  rw [hnd] at HD hwd F0 X0 P0 ⊢
  rw [hnb] at HBB hwb F0 X0 P0 ⊢
  clear P ID IB IBS hf hnd hnb
  go_enter Tryz.func9, Tryz.ntmps9
  go_wp2
  go_loopw [11] (fun c wr => ∃ i : Nat, c = .int .i64 i ∧ i ≤ nd ∧ Fp b w wr ∧ Blk wr w.heap.size #[.slice gd nd cd, .slice gb nb cb] 25 ∧ ∃ ts es e, Pr wr b ts es e ∧ Hid (LAft (oLs oData (p.datas.take i)) ts es e) ∧ Hid (ts.length ≤ wtDs (p.datas.take i)) ∧ es.length = i) (fun c _ => nd - (intOf c).toNat)
  case atStart => exact ⟨0, rfl, Nat.zero_le _, F0, X0, [], [], 0, P0, ⟨⟨rfl, rfl, rfl⟩⟩, ⟨by simp⟩, rfl⟩
  case round =>
    clear F0 X0 P0
    obtain ⟨i, rfl, hi, F, X, ts, es, e, P3, HA, HL, hes⟩ := hrel
    have HES : Hid (es.length = i) := ⟨hes⟩
    have lt3 := P3.lt
    by_cases hlt : i < nd
    · have hlt0 : i < p.datas.length := by rw [HND.out]; exact hlt
      obtain ⟨g, off, rfl, hg, hx⟩ : ∃ g off, gd = some ⟨g, off, none⟩ ∧ g < b ∧ ∀ j u, (datC p.datas)[j]? = some u → w.cell? ⟨g, off + j, none⟩ = some u := by
        obtain ⟨_, _, q, _, h⟩ := HD.out
        cases q
        exact h (by omega)
      obtain ⟨q0, q1, q2⟩ := dat_at hx i hlt0
      have z0 := F.keeps.cell g _ _ hg q0
      have z1 := F.keeps.cell g _ _ hg q1
      have z2 := F.keeps.cell g _ _ hg q2
      have hwt := wtDs_take p.datas i hlt0
      have hwl := wtDs_le p.datas (i + 1)
      have hfi := HFD.out _ (List.getElem_mem hlt0)
      have HT : Hid (oLs oData (p.datas.take (i + 1)) = seqL (oLs oData (p.datas.take i)) (oneL (oData (p.datas[i]'hlt0)))) := ⟨oLs_take _ _ _ hlt0⟩
      have hlt' : (i : Int) < nd := by omega
      have HW : Hid (wtDs (p.datas.take (i + 1)) = wtDs (p.datas.take i) + wtD (p.datas[i]'hlt0)) := ⟨hwt⟩
      have hwb2 : ts.length + wtD (p.datas[i]'hlt0) ≤ wtDs p.datas := by have := HL.out; omega
      have P4 := P3.alloc (.cells #[.string (str (p.datas[i]'hlt0).name), .int .i64 (p.datas[i]'hlt0).arity, .int .i64 (p.datas[i]'hlt0).at'] 62)
      have F4 := F.alloc (.cells #[.string (str (p.datas[i]'hlt0).name), .int .i64 (p.datas[i]'hlt0).arity, .int .i64 (p.datas[i]'hlt0).at'] 62)
      have X4 := X.alloc (.cells #[.string (str (p.datas[i]'hlt0).name), .int .i64 (p.datas[i]'hlt0).arity, .int .i64 (p.datas[i]'hlt0).at'] 62)
      have Q := data_any P4 (p.datas[i]'hlt0) hfi (by omega)
      obtain ⟨dn, hdn⟩ : ∃ x, (p.datas[i]'hlt0).name = x := ⟨_, rfl⟩
      obtain ⟨da, hda⟩ : ∃ x, (p.datas[i]'hlt0).arity = x := ⟨_, rfl⟩
      obtain ⟨dt, hdt⟩ : ∃ x, (p.datas[i]'hlt0).at' = x := ⟨_, rfl⟩
      rw [hdn, hda, hdt] at P4 F4 X4 Q
      rw [hdn] at z0
      rw [hda] at z1
      rw [hdt] at z2
      generalize p.datas[i]'hlt0 = y at *
      clear hx q0 q1 q2 P3 hwt hwl hdn hda hdt hes
      go_wp2_with (go_at_call 18; refine Q.mono ?_; rintro r w5 ⟨rfl, F5, ts5, e5, P5, A5, l5⟩)
      have X5 := F5.oth _ _ _ X4 (by omega) (by decide) (by decide)
      have hes2 : es.length ≤ 2000000 := by have := HES.out; omega
      obtain ⟨v0, c0, O0⟩ := P5.c0
      obtain ⟨v1, c1, O1⟩ := P5.c1
      obtain ⟨ga0, cap0, rfl⟩ := own_form O0
      have zz := P5.z 1
      have ltp := P5.lt
      have HC1 : Hid (w5.cell? ⟨b, 1, none⟩ = some v1) := ⟨c1⟩
      have HP : Hid (Pr w5 b ts5 es e5) := ⟨P5⟩
      obtain ⟨i0, hi0, hz0, hz1, hz2⟩ := info_parts info3
      have hmx : ts5.length ≤ 9223372036854775807 := by omega
      clear P5
      go_region_law (first
        | (refine step_append_lies _ (by rfl) _ _ _ (by rfl) (b + 1) 3 i0 _ 1 8 Tryz.underlying37 hi0 hz0 hz1 hz2 rfl (by decide) v1 es.length (endC es) (by rfl) (own_drew (own_alloc O1 _)) ⟨_, 0, none⟩ 1 1 [.int .i64 (ts5.length : Int)] (by rfl) rfl (World.news_of_block (heap_alloc_new _ _)) (by simp [Value.oneCell']) (by decide) (by unfold maxLen; omega) (by omega) (by simp; omega) _ rfl ?_; intro q cap w9 ho hg hat hlt; have HB := below_here (bal (Below.refl _ w5) _).drew hg; have HO := own_here (own_drew (own_alloc O1 _)) hg; obtain ⟨y0, y1⟩ := put_mid HP.out HB HC1.out HO hg; have HE := ends_end HP.out HC1.out HB HO hg ho))
      all_goals go_wp2
      all_goals go_roundw
      all_goals first
        | (simp [intOf]; omega; done)
        | exact ⟨i + 1, by go_num, by omega, (F4.trans F5).trans HE.2, HE.2.oth _ _ _ X5 (by omega) (by decide) (by decide), ts5, es ++ [ts5.length], e5, HE.1, ⟨by rw [HT.out]; exact HA.out.step A5⟩, ⟨by have := HL.out; have := HW.out; omega⟩, by simp [HES.out]⟩
    · have q1 : p.datas.take i = p.datas := List.take_of_length_le (by rw [HND.out]; omega)
      rw [q1] at HA HL
      have hlt' : ¬ (i : Int) < nd := by omega
      have hl3 := HL.out
      have y1 : wr.cell? ⟨w.heap.size, 1, none⟩ = some (.slice gb nb cb) := X.cell 1
      obtain ⟨wb, rfl⟩ : ∃ x : World, x = wr := ⟨_, rfl⟩
      have hii : i = nd := by omega
      have HES2 : Hid (es.length = nd) := ⟨by rw [hes, hii]⟩
      clear hes HES hii
      go_wp2
      go_loopw [36] (fun c wr => ∃ i : Nat, c = .int .i64 i ∧ i ≤ nb ∧ Fp b w wr ∧ ∃ ts es e, Pr wr b ts es e ∧ Hid (LAft (seqL (oLs oData p.datas) (oLs (oB (oE 60)) (p.binds.take i))) ts es e) ∧ Hid (ts.length ≤ wtDs p.datas + wtBs (p.binds.take i)) ∧ es.length = nd + i) (fun c _ => nb - (intOf c).toNat)
      case atStart => exact ⟨0, rfl, Nat.zero_le _, F, ts, es, e, P3, ⟨by have := HA.out; rw [← seqL_nil (oLs oData p.datas)] at this; exact this⟩, ⟨by omega⟩, HES2.out⟩
      case round =>
        clear P3 HA HL F X y1 lt3 hl3 HES2 hlt hlt' hi q1
        obtain ⟨i, rfl, hi, F, ts, es, e, P3, HA, HL, hes⟩ := hrel
        have HES : Hid (es.length = nd + i) := ⟨hes⟩
        have lt3 := P3.lt
        by_cases hlt : i < nb
        · have hlt0 : i < p.binds.length := by rw [HNB.out]; exact hlt
          obtain ⟨g, off, rfl, hg, hx⟩ : ∃ g off, gb = some ⟨g, off, none⟩ ∧ g < b ∧ ∀ j u, xb[j]? = some u → w.cell? ⟨g, off + j, none⟩ = some u := by
            obtain ⟨_, _, q, _, h⟩ := HBB.out.1
            cases q
            exact h (by omega)
          obtain ⟨dd, hd0, hdd⟩ := isBs_get p.binds xb HBB.out.2 i hlt0
          have hwt := wtBs_take p.binds i hlt0
          have hwl := wtBs_le p.binds (i + 1)
          have hfi := finBs_get p.binds HFB.out i hlt0
          have HT : Hid (oLs (oB (oE 60)) (p.binds.take (i + 1)) = seqL (oLs (oB (oE 60)) (p.binds.take i)) (oneL (oB (oE 60) (p.binds[i]'hlt0)))) := ⟨oLs_take _ _ _ hlt0⟩
          have hlt' : (i : Int) < nb := by omega
          have HW : Hid (wtBs (p.binds.take (i + 1)) = wtBs (p.binds.take i) + wtB (p.binds[i]'hlt0)) := ⟨hwt⟩
          have hwb2 : ts.length + wtB (p.binds[i]'hlt0) ≤ wtDs p.datas + wtBs p.binds := by have := HL.out; omega
          have HI : Hid (isB wr (fun g => g < b) (p.binds[i]'hlt0) dd) := ⟨isB_keeps F.keeps _ _ hd0⟩
          obtain ⟨u1, u2, u3, u0, t1, t0, q3, q4, q5, q6, q7, p3, p4, p5, p6, p7, r3, r4, r5, r6, r7, rfl⟩ := isB_eleven hd0
          have z0 : wr.cell? ⟨g, off + i * 11, none⟩ = some (.string t0) := F.keeps.cell g _ _ hg (cells_at hx hdd 0 _ rfl)
          have z1 : wr.cell? ⟨g, off + i * 11 + 1, none⟩ = some (.int .i64 u0) := F.keeps.cell g _ _ hg (cells_at hx hdd 1 _ rfl)
          have z2 : wr.cell? ⟨g, off + i * 11 + 2, none⟩ = some (.slice q3 p3 r3) := F.keeps.cell g _ _ hg (cells_at hx hdd 2 _ rfl)
          have z3 : wr.cell? ⟨g, off + i * 11 + 3, none⟩ = some (.int .i64 u1) := F.keeps.cell g _ _ hg (cells_at hx hdd 3 _ rfl)
          have z4 : wr.cell? ⟨g, off + i * 11 + 4, none⟩ = some (.int .i64 u2) := F.keeps.cell g _ _ hg (cells_at hx hdd 4 _ rfl)
          have z5 : wr.cell? ⟨g, off + i * 11 + 5, none⟩ = some (.string t1) := F.keeps.cell g _ _ hg (cells_at hx hdd 5 _ rfl)
          have z6 : wr.cell? ⟨g, off + i * 11 + 6, none⟩ = some (.int .i64 u3) := F.keeps.cell g _ _ hg (cells_at hx hdd 6 _ rfl)
          have z7 : wr.cell? ⟨g, off + i * 11 + 7, none⟩ = some (.slice q4 p4 r4) := F.keeps.cell g _ _ hg (cells_at hx hdd 7 _ rfl)
          have z8 : wr.cell? ⟨g, off + i * 11 + 8, none⟩ = some (.slice q5 p5 r5) := F.keeps.cell g _ _ hg (cells_at hx hdd 8 _ rfl)
          have z9 : wr.cell? ⟨g, off + i * 11 + 9, none⟩ = some (.slice q6 p6 r6) := F.keeps.cell g _ _ hg (cells_at hx hdd 9 _ rfl)
          have z10 : wr.cell? ⟨g, off + i * 11 + 10, none⟩ = some (.slice q7 p7 r7) := F.keeps.cell g _ _ hg (cells_at hx hdd 10 _ rfl)
          have P4 := P3.alloc (.cells #[.string t0, .int .i64 u0, .slice q3 p3 r3, .int .i64 u1, .int .i64 u2, .string t1, .int .i64 u3, .slice q4 p4 r4, .slice q5 p5 r5, .slice q6 p6 r6, .slice q7 p7 r7] 51)
          have F4 := F.alloc (.cells #[.string t0, .int .i64 u0, .slice q3 p3 r3, .int .i64 u1, .int .i64 u2, .string t1, .int .i64 u3, .slice q4 p4 r4, .slice q5 p5 r5, .slice q6 p6 r6, .slice q7 p7 r7] 51)
          have Q := bind_any HHE.out P4 (p.binds[i]'hlt0) _ (isB_keeps (keeps_below (Joins.below_alloc1 wr _) (fun _ h => h)) _ _ HI.out) hfi 1 (by decide) (by decide) (by omega)
          generalize p.binds[i]'hlt0 = y at *
          clear hx hdd hd0 HI P3 hwt hwl hes
          go_wp2_with (go_at_call 19; refine Q.mono ?_; rintro r w5 ⟨rfl, F5, ts5, e5, P5, A5, l5⟩)
          have hes2 : es.length ≤ 2000000 := by have := HES.out; omega
          obtain ⟨v0, c0, O0⟩ := P5.c0
          obtain ⟨v1, c1, O1⟩ := P5.c1
          obtain ⟨ga0, cap0, rfl⟩ := own_form O0
          have zz := P5.z 1
          have ltp := P5.lt
          have HC1 : Hid (w5.cell? ⟨b, 1, none⟩ = some v1) := ⟨c1⟩
          have HP : Hid (Pr w5 b ts5 es e5) := ⟨P5⟩
          obtain ⟨i0, hi0, hz0, hz1, hz2⟩ := info_parts info3
          have hmx : ts5.length ≤ 9223372036854775807 := by omega
          clear P5
          go_region_law (first
            | (refine step_append_lies _ (by rfl) _ _ _ (by rfl) (b + 1) 3 i0 _ 1 8 Tryz.underlying37 hi0 hz0 hz1 hz2 rfl (by decide) v1 es.length (endC es) (by rfl) (own_drew (own_alloc O1 _)) ⟨_, 0, none⟩ 1 1 [.int .i64 (ts5.length : Int)] (by rfl) rfl (World.news_of_block (heap_alloc_new _ _)) (by simp [Value.oneCell']) (by decide) (by unfold maxLen; omega) (by omega) (by simp; omega) _ rfl ?_; intro q cap w9 ho hg hat hlt; have HB := below_here (bal (Below.refl _ w5) _).drew hg; have HO := own_here (own_drew (own_alloc O1 _)) hg; obtain ⟨y0, y1⟩ := put_mid HP.out HB HC1.out HO hg; have HE := ends_end HP.out HC1.out HB HO hg ho))
          all_goals go_wp2
          all_goals go_roundw
          all_goals first
            | (simp [intOf]; omega; done)
            | exact ⟨i + 1, by go_num, by omega, (F4.trans F5).trans HE.2, ts5, es ++ [ts5.length], e5, HE.1, ⟨by rw [HT.out, ← seqL_assoc]; exact HA.out.step A5⟩, ⟨by have := HL.out; have := HW.out; omega⟩, by simp [HES.out]; omega⟩
        · have q1 : p.binds.take i = p.binds := List.take_of_length_le (by rw [HNB.out]; omega)
          rw [q1] at HA HL
          have hlt' : ¬ (i : Int) < nb := by omega
          go_wp2
          go_end0
          exact ⟨rfl, F, ts, es, e, P3, HA.out, HL.out⟩

end Go.Proofs.YtofgnpehlheeiaaGreatDoor
