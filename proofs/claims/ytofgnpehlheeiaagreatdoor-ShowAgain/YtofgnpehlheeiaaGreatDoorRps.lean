/- The document's Parse: the plain side; expressions at every depth. -/
import Derived.Test.YtofgnpehlheeiaaGreatDoorRal
import Derived.Test.YtofgnpehlheeiaaGreatDoorRlt
import Derived.Test.YtofgnpehlheeiaaGreatDoorRcs
import Derived.Test.YtofgnpehlheeiaaGreatDoorRefScan
import Derived.Deep.RegionHeld3
namespace Go.Proofs.YtofgnpehlheeiaaGreatDoor
open Go.RowKit
set_option linter.unusedVariables false
set_option linter.unusedSimpArgs false

def datasK (ds : List D) (l : List Tok) : PR (List D) := andT (pDatas (l.length + 1) l) fun ds' r => .ok (ds ++ ds', r)
theorem datasK_end (ds : List D) (l : List Tok) (h : isS [100, 97, 116, 97] l = false) : datasK ds l = .ok (ds, l) := by
  simp [datasK, pDatas, h, andT]
theorem pData_le {l r : List Tok} {d : D} (h : pData l = .ok (d, r)) : r.length < l.length := by
  unfold pData at h
  obtain ⟨c, r1, h1, h⟩ := andT_ok h
  obtain ⟨u, r2, h2, h⟩ := andT_ok h
  obtain ⟨_, r3, h3, h⟩ := andT_ok h
  obtain ⟨e1, _⟩ := pKind_eats h1
  obtain ⟨e2, _⟩ := pKind_eats h2
  obtain ⟨_, v, e3⟩ := pWant_eats h3
  cases h
  subst e1 e2 e3
  simp only [List.length_cons]
  omega
theorem datasK_more (ds : List D) (t : Tok) (q : List Tok) (h : isS [100, 97, 116, 97] (t :: q) = true) : datasK ds (t :: q) = andT (pData q) fun d r => datasK (ds ++ [d]) r := by
  unfold datasK
  rw [datas_step _ h]
  rcases e : pData q with x | ⟨d, r⟩
  · rfl
  · have := pData_le e
    simp only [andT]
    rw [datas_more (t :: q).length (r.length + 1) r (by simp only [List.length_cons]; omega) (by omega)]
    rcases pDatas (r.length + 1) r with x | ⟨ds', r'⟩
    · rfl
    · simp
def bindsK (bs : List B) (l : List Tok) : PR (List B) := andT (pBinds (l.length + 1) l) fun bs' r => .ok (bs ++ bs', r)
theorem bindsK_end (bs : List B) : bindsK bs [] = .ok (bs, []) := by simp [bindsK, pBinds, andT]
theorem bindsK_more (bs : List B) (t : Tok) (q : List Tok) : bindsK bs (t :: q) = andT (pBind (pExp 60) (t :: q)) fun x r => bindsK (bs ++ [x]) r := by
  unfold bindsK
  simp only [pBinds]
  rcases e : pBind (pExp 60) (t :: q) with x | ⟨d, r⟩
  · rfl
  · have := bind_eats 60 _ _ _ e
    simp only [andT]
    rw [binds_more (t :: q).length (r.length + 1) r (by omega) (by omega)]
    rcases pBinds (r.length + 1) r with x | ⟨ds', r'⟩
    · rfl
    · simp
theorem prog_K (l : List Tok) : pProg l = andT (datasK [] l) fun ds r => andT (bindsK [] r) fun bs r => .ok (⟨ds, bs⟩, r) := by
  unfold pProg datasK bindsK
  rcases pDatas (l.length + 1) l with x | ⟨ds, r⟩
  · rfl
  · simp only [andT, List.nil_append]
    rcases pBinds (r.length + 1) r with x | ⟨bs, r'⟩ <;> rfl
theorem datC_snoc (l : List D) (d : D) : datC (l ++ [d]) = datC l ++ [.string (str d.name), .int .i64 d.arity, .int .i64 d.at'] := by simp [datC]
theorem errs_scanF : ∀ f l a e, scanF f l a = .error e → e.2 ≠ 0
  | 0, _, _, _, h => by cases h
  | f + 1, l, a, e, h => by
    by_cases hk : skipN false l < l.length
    · rcases hr : readT (l.drop (skipN false l)) with e' | t
      · rw [scanF_err _ _ _ hk hr] at h
        cases h
        have := readT_err hr
        simp only
        omega
      · rw [scanF_ok _ _ _ hk hr] at h
        rcases hq : scanF f ((l.drop (skipN false l)).drop t.len) (a + skipN false l + t.len) with e' | us
        · rw [hq] at h
          cases h
          exact errs_scanF f _ _ _ hq
        · rw [hq] at h
          cases h
    · rw [scanF_end _ _ _ hk] at h
      cases h
theorem errs_scan {l : List UInt8} {a : Nat} {c : Int} (h : scanAll l = .error (a, c)) : c ≠ 0 := by
  unfold scanAll at h
  split at h
  · cases h; decide
  · exact errs_scanF _ _ _ _ h
theorem parse_scan_err {l : List UInt8} {e} (h : scanAll l = .error e) : parseT l = .error e := by unfold parseT; rw [h]
theorem parse_isok {l : List UInt8} {ts r : List Tok} {p : Pg} (h : scanAll l = .ok ts) (k : pProg ts = .ok (p, r)) : parseT l = .ok p := by unfold parseT; rw [h]; simp only [k]
theorem parse_err {l : List UInt8} {ts r : List Tok} {c : Int} (h : scanAll l = .ok ts) (k : pProg ts = .error (c, r)) : parseT l = .error (placeT l.length r, c) := by unfold parseT; rw [h]; simp only [k]

theorem scanF_len : ∀ f l a ts, scanF f l a = .ok ts → ts.length ≤ l.length
  | 0, _, _, _, h => by cases h; simp
  | f + 1, l, a, ts, h => by
    by_cases hk : skipN false l < l.length
    · rcases hr : readT (l.drop (skipN false l)) with e | t
      · rw [scanF_err _ _ _ hk hr] at h; cases h
      · rw [scanF_ok _ _ _ hk hr] at h
        rcases hq : scanF f ((l.drop (skipN false l)).drop t.len) (a + skipN false l + t.len) with e | us
        · rw [hq] at h; cases h
        · rw [hq] at h
          cases h
          have ih := scanF_len f _ _ _ hq
          have tl := readT_len hr
          simp only [List.length_drop, List.length_append, List.length_cons, List.length_nil] at *
          omega
    · rw [scanF_end _ _ _ hk] at h
      cases h
      simp
theorem scan_len {l : List UInt8} {ts : List Tok} (h : scanAll l = .ok ts) : ts.length ≤ 16384 := by
  unfold scanAll at h
  split at h
  · cases h
  · have := scanF_len _ _ _ _ h
    omega
theorem exp_allR : ∀ d, d ≤ 60 → ExpR d
  | 0, _ => fun k hk w b o n R => exp_deep (d := 0) (by omega) R
  | d + 1, hd => fun k hk w b o n R => by
    have hE := exp_allR d (by omega)
    have hk' : k = 60 - d := by omega
    have h0 : 0 ≤ k := by omega
    have h60 : k ≤ 60 := by omega
    rcases o with _ | l
    · exact exp_bad h60 R
    · by_cases hm : ∃ t r, some l = some (t :: r) ∧ (t.kind = 4 ∨ t.kind = 1 ∨ t.kind = 2 ∨ t.kind = 3)
      · obtain ⟨t, r, e, h | h | h | h⟩ := hm
        · cases e; exact exp_int h60 R h
        · cases e; exact exp_name h60 R h
        · cases e; exact exp_con h60 R h
        · cases e; exact exp_prim h60 R h
      · have part : ∀ s : List UInt8, isR s (some l) = true → ∃ t r, l = t :: r ∧ ¬ (t.kind = 4 ∨ t.kind = 1 ∨ t.kind = 2 ∨ t.kind = 3) := fun s hs => by
          cases l with
          | nil => cases hs
          | cons t r => exact ⟨t, r, rfl, fun q => hm ⟨t, r, rfl, q⟩⟩
        cases ia : isR [108, 101, 116] (some l) with
        | true =>
          obtain ⟨t, r, rfl, hn⟩ := part _ ia
          exact exp_let h0 hE hk' R hn ia
        | false =>
          cases ib : isR [99, 97, 115, 101] (some l) with
          | true =>
            obtain ⟨t, r, rfl, hn⟩ := part _ ib
            exact exp_case h0 hE hk' R hn ia ib
          | false =>
            cases ic : isR [40] (some l) with
            | true =>
              obtain ⟨t, r, rfl, hn⟩ := part _ ic
              exact exp_par h0 hE hk' R hn ia ib ic
            | false => exact ex_none h60 R (by simp) hm ia ib ic

def DatJ (oS : Option (List Tok)) (ds : List D) (o : Option (List Tok)) : Prop := runO (datasK []) oS = runO (datasK ds) o ∧ ∀ ys, Rt (datasK ds) o ys → Rt (datasK []) oS ys
def BinJ (oS : Option (List Tok)) (bs : List B) (o : Option (List Tok)) : Prop := runO (bindsK []) oS = runO (bindsK bs) o ∧ ∀ ys, Rt (bindsK bs) o ys → Rt (bindsK []) oS ys
theorem data_rt {o : Option (List Tok)} {c m : Tok} (h1 : Rt (pKind 2) o c) (h2 : Rt (pKind 4) (runO (pKind 2) o) m) : runO pData o = runO (pWant [59]) (runO (pKind 4) (runO (pKind 2) o)) ∧ Rt pData o ⟨c.text, m.num, c.at'⟩ := by
  have s1 := (Stp.mk (q := pData) (fun l => rfl)).rt h1
  have s2 := (Stp.mk (p := pKind 4) (f := fun m r => andT (pWant [59] r) fun _ r => Except.ok ((⟨c.text, m.num, c.at'⟩ : D), r)) (q := fun r => _) (fun l => rfl)).rt h2
  have s3 := (Stp.mk (p := pWant [59]) (f := fun _ r => (Except.ok ((⟨c.text, m.num, c.at'⟩ : D), r) : PR D)) (q := fun r => _) (fun l => rfl)).rt (rt_want [59] (runO (pKind 4) (runO (pKind 2) o)))
  have s4 := rt_ret (⟨c.text, m.num, c.at'⟩ : D) (runO (pWant [59]) (runO (pKind 4) (runO (pKind 2) o)))
  exact ⟨s1.1.trans (s2.1.trans (s3.1.trans s4.1)), s1.2 _ (s2.2 _ (s3.2 _ s4.2))⟩
section
variable {oS : Option (List Tok)} {ds : List D} {bs : List B}
theorem DatJ.more {t : Tok} {q : List Tok} {x : D} (h : DatJ oS ds (some (t :: q))) (hs : isS [100, 97, 116, 97] (t :: q) = true) (hx : Rt pData (some q) x) : DatJ oS (ds ++ [x]) (runO pData (some q)) := by
  have e' : ∀ {p q' : List Tok → PR (List D)}, p (t :: q) = q' q → runO p (some (t :: q)) = runO q' (some q) ∧ valO p (some (t :: q)) = valO q' (some q) := fun h => by simp only [runO, valO, h, and_self]
  obtain ⟨e1, e2⟩ := e' (p := datasK ds) (q' := fun l => andT (pData l) fun x r => datasK (ds ++ [x]) r) (datasK_more ds t q hs)
  have s := (Stp.mk (p := pData) (f := fun x r => datasK (ds ++ [x]) r) (q := fun l => andT (pData l) fun x r => datasK (ds ++ [x]) r) (fun l => rfl)).rt hx
  exact ⟨h.1.trans (e1.trans s.1), fun ys hy => h.2 ys (fun y q => s.2 ys hy y (by rw [← e2]; exact q))⟩
theorem DatJ.close {o : Option (List Tok)} (h : DatJ oS ds o) (hs : isR [100, 97, 116, 97] o = false) : runO (datasK []) oS = o ∧ Rt (datasK []) oS ds := by
  cases o with
  | none => exact ⟨h.1, h.2 ds (fun y q => by cases q)⟩
  | some l =>
    obtain ⟨a1, a2⟩ := runO_some (p := datasK ds) (datasK_end ds l hs)
    exact ⟨by rw [h.1, a1], h.2 ds (fun y q => by rw [a2] at q; cases q; rfl)⟩
theorem BinJ.more {t : Tok} {q : List Tok} {x : B} (h : BinJ oS bs (some (t :: q))) (hx : Rt (pBind (pExp 60)) (some (t :: q)) x) : BinJ oS (bs ++ [x]) (runO (pBind (pExp 60)) (some (t :: q))) := by
  obtain ⟨e1, e2⟩ := at_eq (p := bindsK bs) (q := fun l => andT (pBind (pExp 60) l) fun x r => bindsK (bs ++ [x]) r) (bindsK_more bs t q)
  have s := (Stp.mk (p := pBind (pExp 60)) (f := fun x r => bindsK (bs ++ [x]) r) (q := fun l => andT (pBind (pExp 60) l) fun x r => bindsK (bs ++ [x]) r) (fun l => rfl)).rt hx
  exact ⟨h.1.trans (e1.trans s.1), fun ys hy => h.2 ys (fun y q => s.2 ys hy y (by rw [← e2]; exact q))⟩
theorem BinJ.close (h : BinJ oS bs (some [])) : runO (bindsK []) oS = some [] ∧ Rt (bindsK []) oS bs := by
  obtain ⟨a1, a2⟩ := runO_some (p := bindsK bs) (bindsK_end bs)
  exact ⟨by rw [h.1, a1], h.2 bs (fun y q => by rw [a2] at q; cases q; rfl)⟩
end
theorem prog_rt {ts : List Tok} {ds : List D} {bs : List B} {oD oB : Option (List Tok)} (h1 : runO (datasK []) (some ts) = oD) (h2 : Rt (datasK []) (some ts) ds) (h3 : runO (bindsK []) oD = oB) (h4 : Rt (bindsK []) oD bs) : runO pProg (some ts) = oB ∧ Rt pProg (some ts) ⟨ds, bs⟩ := by
  subst h1 h3
  have s1 := (Stp.mk (q := pProg) prog_K).rt h2
  have s2 := (Stp.mk (p := bindsK []) (f := fun bs r => (Except.ok ((⟨ds, bs⟩ : Pg), r) : PR Pg)) (q := fun r => _) (fun l => rfl)).rt h4
  have s3 := rt_ret (⟨ds, bs⟩ : Pg) (runO (bindsK []) (runO (datasK []) (some ts)))
  exact ⟨s1.1.trans (s2.1.trans s3.1), s1.2 _ (s2.2 _ s3.2)⟩
theorem parse_of_run {s : List UInt8} {ts : List Tok} (hs : scanAll s = .ok ts) {l : List Tok} {p : Pg} (h : runO pProg (some ts) = some l) (hp : Rt pProg (some ts) p) : parseT s = .ok p := by
  cases hv : valO pProg (some ts) with
  | none => rw [val_run hv] at h; cases h
  | some q =>
    have e := hp q hv
    subst e
    obtain ⟨l', r, e1, e2, _⟩ := valO_some hv
    cases e1
    exact parse_isok hs e2
theorem parse_of_none {s : List UInt8} {ts : List Tok} (hs : scanAll s = .ok ts) (h : runO pProg (some ts) = none) : ∀ p, parseT s ≠ .ok p := by
  intro p hp
  unfold parseT at hp
  rw [hs] at hp
  simp only [runO] at h
  split at h
  · cases h
  · rename_i e he
    obtain ⟨c, r⟩ := e
    simp only [he] at hp
    cases hp

end Go.Proofs.YtofgnpehlheeiaaGreatDoor

/- The document's Parse. -/
namespace Go.Proofs.YtofgnpehlheeiaaGreatDoor
open Go.RowKit
set_option linter.unusedVariables false
set_option linter.unusedSimpArgs false


/-- a program in the making: the result's block M, the reader b, the program's own block X -/
structure Po (w W : World) (b M X : Nat) (n : Int) (o : Option (List Tok)) (cs : Array Value) : Prop where
  rd : RdR W b o n
  be : Below w.heap.size w W
  m : Blk W M #[nil3, nil3] 25
  x : Blk W X cs 25
  lo : w.heap.size ≤ M ∧ M < b ∧ b < X
section
variable {w W W' : World} {b M X : Nat} {n : Int} {l l' : Option (List Tok)} {cs : Array Value}
theorem Po.kept {row : Option Nat} (h : Po w W b M X n l cs) (k : W.grownBy W' row) (hr : ∀ i, row = some i → X < i) : Po w W' b M X n l cs :=
  have lo := h.lo
  have sz := h.be.size
  ⟨h.rd.kept k (fun i e => by have := hr i e; omega), ⟨k.os.trans h.be.os, k.tape.trans h.be.tape, k.output.trans h.be.output, Nat.le_trans h.be.size k.size, fun i hi => (k.block i (by omega) (fun e => by have := hr i e.symm; omega)).trans (h.be.block i hi)⟩, h.m.kept k (fun e => by have := hr _ e; omega), h.x.kept k (fun e => by have := hr _ e; omega), h.lo⟩
theorem Po.alloc (h : Po w W b M X n l cs) (o : Obj) : Po w (W.alloc o) b M X n l cs := h.kept (grown_alloc _ _) (fun i e => by cases e)
theorem Po.drew (h : Po w W b M X n l cs) : Po w W.drew b M X n l cs := h.kept (grown_drew _) (fun i e => by cases e)
theorem Po.call (h : Po w W b M X n l cs) (F : Fr b W W') (R : RdR W' b l' n) : Po w W' b M X n l' cs :=
  have lo := h.lo
  have sz := h.be.size
  ⟨R, ⟨F.os.trans h.be.os, F.tape.trans h.be.tape, F.output.trans h.be.output, Nat.le_trans h.be.size F.size, fun i hi => (F.block i (by omega) (fun e => by cases e; omega)).trans (h.be.block i hi)⟩, h.m.kept F (fun e => by cases e; omega), h.x.kept F (fun e => by cases e; omega), h.lo⟩
theorem Po.below (h : Po w W b M X n l cs) (B : Below W.heap.size W W') : Po w W' b M X n l cs := h.call (Fr.of_below B) (h.rd.below B)
theorem Po.row {size m : Nat} {e : TypeId} {v : Value} {xs : List Value} (h : Po w W b M X n l cs) (o : W.ownsRow (X + 1) e size v m xs) (k : W.grownBy W' v.ownBlock) : Po w W' b M X n l cs :=
  h.kept k (fun i hi => (o.lt i hi).1)
theorem Po.store (h : Po w W b M X n l cs) (j : Nat) (v : Value) : Po w (W.setCell ⟨X, j, none⟩ v) b M X n l (cs.setIfInBounds j v) :=
  have g : W.grownBy (W.setCell ⟨X, j, none⟩ v) (some X) := grown_set W X j v
  have lo := h.lo
  have sz := h.be.size
  ⟨h.rd.kept g (fun i e => by cases e; omega), ⟨g.os.trans h.be.os, g.tape.trans h.be.tape, g.output.trans h.be.output, Nat.le_trans h.be.size g.size, fun i hi => (g.block i (by omega) (fun e => by cases e; omega)).trans (h.be.block i hi)⟩, h.m.kept g (fun e => by cases e; omega), Joins.block_setCell h.x v, h.lo⟩
theorem Po.lts (h : Po w W b M X n l cs) : b < W.heap.size ∧ M < W.heap.size ∧ X < W.heap.size := ⟨h.rd.lt, h.m.lt, h.x.lt⟩
end
theorem info62 : (Tryz.prog.info? 62).map (fun i => (i.zero, i.size, i.bytes)) = some (some (.agg #[.string ⟨#[]⟩, .int .i64 0, .int .i64 0]), 3, 32) := by kernel_rfl
theorem size25 : (Tryz.prog.info? 25).map (·.size) = some 2 := by kernel_rfl
theorem rd_start {w : World} {base : Nat} {ga : Option Addr} {cap : Nat} {ts : List Tok} {n : Int} (RW : Row w base (.slice ga ts.length cap) ts) (hl : ts.length ≤ 16384) (hg : Good ts) :
    RdR (w.alloc (.cells #[.slice ga ts.length cap, .int .i64 0, .int .i64 n, .bool false, .int .i64 0, .int .i64 0] 56)) w.heap.size (some ts) n := by
  obtain ⟨ga', cap', e, hle, hc⟩ := own_le RW
  cases e
  refine ⟨⟨ts, 0, ga, cap, 0, 0, Blk.fresh w _ _, ⟨hle, hl⟩, Nat.zero_le _, fun l h => by cases h; rfl, fun h => (by cases h), fun hn => ?_⟩, fun l h => by cases h; exact hg⟩
  obtain ⟨g, rfl, hcs⟩ := hc hn
  have hlt := (World.ownsRow.lt RW g rfl).2
  refine ⟨g, 0, rfl, hlt, fun j u hj => ?_⟩
  have h1 := hcs j u hj
  rw [show ((⟨g, 0, none⟩ : Addr).add j) = ⟨g, 0 + j, none⟩ by unfold Addr.add; split <;> simp_all] at h1
  exact (grown_alloc _ _).cell h1 (fun e => by cases e)
/-- what Parse answers: an error, or the text's program -/
def ParsesR (s : List UInt8) (w : World) (e : Ending) (w' : World) : Prop := Below w.heap.size w w' ∧ ∃ v a c, e = .returned (.tuple #[v, .int .i64 a, .int .i64 c]) ∧ ((c ≠ 0 ∧ v = .agg #[nil3, nil3] ∧ ∀ p, parseT s ≠ .ok p) ∨ (c = 0 ∧ a = 0 ∧ ∃ p, parseT s = .ok p ∧ isPV w' (new w w') p v))
set_option maxRecDepth 100000 in
set_option maxHeartbeats 8000000 in
theorem rparse_bad (s : ByteArray) (w : World) (L : Laid w) {a : Nat} {c : Int} (hs : scanAll s.data.toList = .error (a, c)) : Calls Tryz.prog 7 #[.string s] w (ParsesR s.data.toList w) := by
  have SC := rscan_any s (w.alloc (.cells #[nil3, nil3] 25)) (L.later (Joins.below_alloc1 w _))
  rw [hs] at SC
  simp only [scanA, scanE, scanL] at SC
  have hc := errs_scan hs
  have hp := parse_scan_err hs
  have M0 := Blk.fresh w #[nil3, nil3] 25
  have HP : Hid (c ≠ 0 ∧ ∀ p, parseT s.data.toList ≠ .ok p) := ⟨hc, fun p q => by rw [hp] at q; cases q⟩
  have hc' : (c == 0) = false := by simp [hc]
  have B0 := Joins.below_alloc1 w (.cells #[nil3, nil3] 25)
  clear hs hp L hc
  go_enter Tryz.func7, Tryz.ntmps7
  go_wp2_with (first
    | (go_at_call 11; refine SC.mono ?_; rintro e w1 ⟨v, rfl, RW, B1⟩; have M1 : Blk w1 w.heap.size #[nil3, nil3] 25 := (B1.block _ M0.lt).trans M0; have m0 : w1.cell? ⟨w.heap.size, 0, none⟩ = some nil3 := M1.cell 0; have m1 : w1.cell? ⟨w.heap.size, 1, none⟩ = some nil3 := M1.cell 1; have z0 := M1.z 0; have z1 := M1.z 1))
  refine bodyPost_ret (v := .tuple #[.agg #[nil3, nil3], .int .i64 a, .int .i64 c]) (by simp [results, Tryz.results7, go_sem, m0, m1]) rfl ⟨?_, _, _, _, rfl, .inl ⟨HP.out.1, rfl, HP.out.2⟩⟩
  have B2 := B0.trans (Joins.below_le B1 (by simp))
  exact ⟨B2.os, B2.tape, B2.output, by simpa using B2.size, fun k hk => by rw [setCell_block _ _ _ _ (by simp; omega), setCell_block _ _ _ _ (by simp; omega)]; exact B2.block k hk⟩
def DatI (w wr : World) (b M X : Nat) (n : Int) (o1 : Option (List Tok)) : Prop :=
  ∃ ds o' vd, Po w wr b M X n o' #[vd, nil3] ∧ Hid (DatJ o1 ds o') ∧ ds.length + leftO o' ≤ 16385 ∧ wr.ownsRow (X + 1) 62 3 vd ds.length (datC ds)
def BinI (w wr : World) (b M X : Nat) (n : Int) (oD : Option (List Tok)) (vd : Value) (ds : List D) : Prop :=
  ∃ bs o' vb xb, Po w wr b M X n o' #[vd, vb] ∧ Hid (BinJ oD bs o') ∧ bs.length + leftO o' ≤ 16385 ∧ wr.ownsRow (X + 1) 51 11 vb bs.length xb ∧ Hid (isBs wr (inn X wr vb) bs xb) ∧ Hid (IsRow wr (inn X wr vb) (datC ds) ds.length vd)
theorem left_data (q : List Tok) : leftO (runO pData (some q)) < leftO (some q) := left_lt (one := pData) (fun l a r h => pData_le h) q

set_option maxRecDepth 100000 in
set_option maxHeartbeats 8000000 in
theorem rparse_good (s : ByteArray) (w : World) (L : Laid w) {ts : List Tok} (hs : scanAll s.data.toList = .ok ts) : Calls Tryz.prog 7 #[.string s] w (ParsesR s.data.toList w) := by
  have SC := rscan_any s (w.alloc (.cells #[nil3, nil3] 25)) (L.later (Joins.below_alloc1 w _))
  rw [hs] at SC
  simp only [scanA, scanE, scanL] at SC
  have M0 := Blk.fresh w #[nil3, nil3] 25
  have B0 := Joins.below_alloc1 w (.cells #[nil3, nil3] 25)
  have HG : Hid (ts.length ≤ 16384 ∧ Good ts) := ⟨scan_len hs, scan_good hs⟩
  obtain ⟨Q, hQ⟩ : ∃ Q : Ending → World → Prop, Q = ParsesR s.data.toList w := ⟨_, rfl⟩
  have HB : Hid (∀ w' a c oD ds, Below w.heap.size w w' → c ≠ 0 → runO (datasK []) (some ts) = oD → Rt (datasK []) (some ts) ds → (∃ bs, BinJ oD bs none) → Q (.returned (.tuple #[.agg #[nil3, nil3], .int .i64 a, .int .i64 c])) w') := ⟨fun w' a c oD ds hb hc h1 h2 ⟨bs, h3⟩ => by
    rw [hQ]
    exact ⟨hb, _, _, _, rfl, .inl ⟨hc, rfl, parse_of_none hs (prog_rt h1 h2 h3.1 (h3.2 bs (fun y q => by cases q))).1⟩⟩⟩
  have HO : Hid (∀ w' v oD ds bs, Below w.heap.size w w' → runO (datasK []) (some ts) = oD → Rt (datasK []) (some ts) ds → BinJ oD bs (some []) → isPV w' (new w w') ⟨ds, bs⟩ v → Q (.returned (.tuple #[v, .int .i64 0, .int .i64 0])) w') := ⟨fun w' v oD ds bs hb h1 h2 h3 h4 => by
    rw [hQ]
    obtain ⟨h5, h6⟩ := prog_rt h1 h2 h3.close.1 h3.close.2
    exact ⟨hb, _, _, _, rfl, .inr ⟨rfl, rfl, _, parse_of_run hs h5 h6, h4⟩⟩⟩
  rw [← hQ]
  clear hs L hQ
  go_enter Tryz.func7, Tryz.ntmps7
  go_wp2_with (first
    | (go_at_call 11; refine SC.mono ?_; rintro e w1 ⟨v, rfl, RW, B1⟩; obtain ⟨ga, cap, rfl⟩ := own_form RW; have HRW : Hid (Row _ _ _ _) := ⟨RW⟩; have M1 : Blk w1 w.heap.size #[nil3, nil3] 25 := (B1.block _ M0.lt).trans M0; have B2 := B0.trans (Joins.below_le B1 (by simp)); clear RW B1))
  have O1 : Po w ((w1.alloc (.cells #[.slice ga ts.length cap, .int .i64 0, .int .i64 s.size, .bool false, .int .i64 0, .int .i64 0] 56)).alloc (.cells #[nil3, nil3] 25)) w1.heap.size w.heap.size (w1.heap.size + 1) s.size (some ts) #[nil3, nil3] :=
    ⟨(rd_start HRW.out HG.out.1 HG.out.2).alloc _, (B2.alloc B2.size _).alloc (by have := B2.size; simp; omega) _, (M1.alloc _).alloc _, (by have := Blk.fresh (w1.alloc (.cells #[.slice ga ts.length cap, .int .i64 0, .int .i64 s.size, .bool false, .int .i64 0, .int .i64 0] 56)) #[nil3, nil3] 25; simpa using this), ⟨Nat.le_refl _, M1.lt, by omega⟩⟩
  have HL1 : Hid (leftO (some ts) ≤ 16385) := ⟨O1.rd.left⟩
  generalize ((w1.alloc (.cells #[.slice ga ts.length cap, .int .i64 0, .int .i64 s.size, .bool false, .int .i64 0, .int .i64 0] 56)).alloc (.cells #[nil3, nil3] 25)) = W1 at *
  have hX := O1.lo
  generalize hXX : w1.heap.size + 1 = X at *
  generalize w1.heap.size = b at *
  clear SC M0 B0 M1 B2 HRW hXX
  generalize hn : (s.size : Int) = n at *
  generalize hM : w.heap.size = M at *
  go_loopw [] (fun wr => DatI w wr b M X n (some ts)) (fun wr => mz wr b)
  case atStart => exact ⟨[], some ts, nil3, by rw [← hM] at O1 ⊢; exact O1, ⟨⟨rfl, fun ys h => h⟩⟩, by simpa using HL1.out, World.ownsRow_nil _ _ _ _⟩
  case round =>
    clear O1
    obtain ⟨ds, o', vd, O, HJ, hl, OW⟩ := hrel
    have HM : Hid (mz wr b = leftO o') := ⟨O.rd.mz⟩
    have ST := is_any O.rd [100, 97, 116, 97]
    cases hst : isR [100, 97, 116, 97] o' with
    | true =>
      rw [hst, show str [100, 97, 116, 97] = ⟨#[100, 97, 116, 97]⟩ from rfl] at ST
      obtain ⟨t, q, rfl⟩ : ∃ t q, o' = some (t :: q) := by
        rcases o' with _ | (_ | ⟨t, q⟩)
        · cases hst
        · cases hst
        · exact ⟨t, q, rfl⟩
      have HST : Hid (isS [100, 97, 116, 97] (t :: q) = true) := ⟨hst⟩
      have HO1 : Hid (Po _ _ _ _ _ _ _ _) := ⟨O⟩
      have hlb : ds.length ≤ 16385 := by omega
      have HL : Hid (ds.length + leftO (some (t :: q)) ≤ 16385) := ⟨hl⟩
      obtain ⟨i0, hi, hz0, hz1, hz2⟩ := info_parts info62
      clear O hst hl
      go_wp2_with (first
        | (go_at_call 12; refine ST.mono ?_; rintro e w1 ⟨rfl, B1⟩; have O1 := HO1.out.below B1; have OW1 := own_fr OW (Fr.of_below (b := b) B1) (by omega); have ON := on_any O1.rd (fun l e z => by cases e; cases z); simp only [Option.map_some, List.tail_cons] at ON; clear B1 ST OW)
        | (go_at_call 13; refine ON.mono ?_; rintro e w2 ⟨rfl, F2, R2⟩; have O2 := O1.call F2 R2; have OW2 := own_fr OW1 F2 (by omega); have K1 := kind_any O2.rd 2 (by decide); clear F2 R2 O1 OW1 ON)
        | (go_at_call 14; refine K1.mono ?_; rintro e w3 ⟨F3, R3, c, rfl, hc⟩; have HC : Hid (Rt (pKind 2) (some q) c) := ⟨hc⟩; have O3 := (O2.call F3 R3).alloc (.cells #[.int .i64 c.kind, .string (str c.text), .int .i64 c.num, .int .i64 c.at'] 58); have OW3 := own_alloc (own_fr OW2 F3 (by omega)) (.cells #[.int .i64 c.kind, .string (str c.text), .int .i64 c.num, .int .i64 c.at'] 58); have L3 := Blk.fresh w3 #[.int .i64 c.kind, .string (str c.text), .int .i64 c.num, .int .i64 c.at'] 58; have lt3 := (O2.call F3 R3).lts.2.2; have K2 := kind_any O3.rd 4 (by decide); clear F3 R3 O2 OW2 K1 hc)
        | (go_at_call 14; refine K2.mono ?_; rintro e w4 ⟨F4, R4, m, rfl, hm⟩; have HN : Hid (Rt (pKind 4) (runO (pKind 2) (some q)) m) := ⟨hm⟩; have O4 := (O3.call F4 R4).alloc (.cells #[.int .i64 m.kind, .string (str m.text), .int .i64 m.num, .int .i64 m.at'] 58); have OW4 := own_alloc (own_fr OW3 F4 (by omega)) (.cells #[.int .i64 m.kind, .string (str m.text), .int .i64 m.num, .int .i64 m.at'] 58); have L4 := (L3.kept F4 (fun e => by cases e; omega)).alloc (.cells #[.int .i64 m.kind, .string (str m.text), .int .i64 m.num, .int .i64 m.at'] 58); have N4 := Blk.fresh w4 #[.int .i64 m.kind, .string (str m.text), .int .i64 m.num, .int .i64 m.at'] 58; have lt4 := (O3.call F4 R4).lts.2.2; clear F4 R4 O3 OW3 K2 hm)
        | (go_at_call 15; refine (want_any O4.rd [59]).mono ?_; rintro e w5 ⟨rfl, F5, R5⟩; have O5 := O4.call F5 R5; have OW5 := own_fr OW4 F5 (by omega); have L5 := L4.kept F5 (fun e => by cases e; omega); have N5 := N4.kept F5 (fun e => by cases e; omega); have c1 : w5.cell? ⟨w3.heap.size, 1, none⟩ = some (.string (str c.text)) := L5.cell 1; have c3 : w5.cell? ⟨w3.heap.size, 3, none⟩ = some (.int .i64 c.at') := L5.cell 3; have d2 : w5.cell? ⟨w4.heap.size, 2, none⟩ = some (.int .i64 m.num) := N5.cell 2; have x0 : w5.cell? ⟨X, 0, none⟩ = some vd := O5.x.cell 0; have lt5 := O5.lts.2.2; clear F5 R5 O4 OW4)
        | (at_builtin; refine wpList_append_lies _ rfl _ _ 22 rfl (X + 1) 62 i0 _ 3 32 Tryz.underlying22 hi hz0 hz1 hz2 rfl (by decide) vd ds.length (datC ds) rfl (own_alloc OW5 _) ⟨_, 0, none⟩ 1 1 [.string (str c.text), .int .i64 m.num, .int .i64 c.at'] rfl rfl (World.news_of_block (heap_alloc_new _ _)) (by simp [Value.oneCell']) (by decide) (by unfold maxLen; omega) (by omega) (by simp; omega) _ rfl ?_; intro q6 cap6 w6 ho hg hat hlt; have O6 := (O5.alloc (.cells #[.string (str c.text), .int .i64 m.num, .int .i64 c.at'] 62)).row (own_alloc OW5 _) hg; have y6 : w6.cell? ⟨X, 0, none⟩ = some vd := O6.x.cell 0; have z6 : w6.frozen? ⟨X, 0, none⟩ = false := O6.x.z 0; clear hg hat hlt))
      obtain ⟨e1, e2⟩ := data_rt HC.out HN.out
      have hlt := left_data q
      rw [e1] at hlt
      have hJ := DatJ.more HJ.out HST.out e2
      rw [e1] at hJ
      have hle := HL.out
      have hq1 : leftO (some q) = q.length + 1 := rfl
      have hq2 : leftO (some (t :: q)) = q.length + 1 + 1 := rfl
      rw [hq1] at hlt
      rw [hq2] at hle
      refine ⟨⟨ds ++ [⟨c.text, m.num, c.at'⟩], _, .slice (some ⟨q6, 0, none⟩) (ds.length + 1) cap6, O6.store 0 _, ⟨hJ⟩, by rw [List.length_append]; simp only [List.length_cons, List.length_nil]; omega, ?_⟩, ?_⟩
      · rw [datC_snoc, List.length_append]
        exact own_store ho 0 _
      · rw [(O6.store 0 _).rd.mz, HM.out, hq2]
        omega
    | false =>
      have HD : Hid (runO (datasK []) (some ts) = o' ∧ Rt (datasK []) (some ts) ds) := ⟨HJ.out.close hst⟩
      rw [hst, show str [100, 97, 116, 97] = ⟨#[100, 97, 116, 97]⟩ from rfl] at ST
      have HO1 : Hid (Po _ _ _ _ _ _ _ _) := ⟨O⟩
      have hlb : ds.length ≤ 16385 := by omega
      clear O hst hl HM HJ
      go_wp2_with (first | (go_at_call 12; refine ST.mono ?_; rintro e W2 ⟨rfl, B1⟩))
      have O2 := HO1.out.below B1
      have OW2 := own_fr OW (Fr.of_below (b := b) B1) (by omega)
      obtain ⟨gd, cd, rfl⟩ := own_form OW2
      have ID2 : Hid (IsRow W2 (inn X W2 nil3) (datC ds) ds.length (.slice gd ds.length cd)) := ⟨row_of_owns OW2 (fun g hg => ⟨by have := (OW2.lt g hg).1; omega, (OW2.lt g hg).2, by simp [Value.ownBlock]⟩) (by omega)⟩
      have HO2 : Hid (Po _ _ _ _ _ _ _ _) := ⟨O2⟩
      have HL2 : Hid (leftO o' ≤ 16385) := ⟨O2.rd.left⟩
      clear HO1 OW OW2 B1 ST HL1 O2
      go_loopw [] (fun wr => BinI w wr b M X n o' (.slice gd ds.length cd) ds) (fun wr => mz wr b)
      case atStart => exact ⟨[], o', nil3, [], HO2.out, ⟨⟨rfl, fun ys h => h⟩⟩, by simpa using HL2.out, World.ownsRow_nil _ _ _ _, ⟨by simp only [isBs]⟩, ID2⟩
      case round =>
        clear HO2 ID2 HL2
        obtain ⟨bs, o2, vb, xb, O, HJ, hl, OW, HIB, HID⟩ := hrel
        have HM : Hid (mz wr b = leftO o2) := ⟨O.rd.mz⟩
        have HO2 : Hid (Po _ _ _ _ _ _ _ _) := ⟨O⟩
        obtain ⟨us, k, ga, cap, e4, e5, XB, ⟨a0, a1⟩, a2, a3, a4, a5⟩ := O.rd.ex
        have c0 : wr.cell? ⟨b, 0, none⟩ = some (.slice ga us.length cap) := XB.cell 0
        have c1 : wr.cell? ⟨b, 1, none⟩ = some (.int .i64 k) := XB.cell 1
        have c3 : wr.cell? ⟨b, 3, none⟩ = some (.bool o2.isNone) := XB.cell 3
        have c4 : wr.cell? ⟨b, 4, none⟩ = some (.int .i64 e4) := XB.cell 4
        have c5 : wr.cell? ⟨b, 5, none⟩ = some (.int .i64 e5) := XB.cell 5
        obtain ⟨gb, cb, rfl⟩ := own_form OW
        have x0 : wr.cell? ⟨X, 0, none⟩ = some (.slice gd ds.length cd) := O.x.cell 0
        have x1 : wr.cell? ⟨X, 1, none⟩ = some (.slice gb bs.length cb) := O.x.cell 1
        have m0 : wr.cell? ⟨M, 0, none⟩ = some nil3 := O.m.cell 0
        have m1 : wr.cell? ⟨M, 1, none⟩ = some nil3 := O.m.cell 1
        have z0 : wr.frozen? ⟨M, 0, none⟩ = false := O.m.z 0
        have z1 : wr.frozen? ⟨M, 1, none⟩ = false := O.m.z 1
        have nb1 : ¬ M = b := by omega
        have nb2 : ¬ b = M := by omega
        have nb3 : ¬ M = X := by omega
        have nb4 : ¬ X = M := by omega
        rcases o2 with _ | (_ | ⟨t, q⟩)
        · simp only [Option.isNone_none] at c3
          have he4 := a4 rfl
          have HE4 : Hid (e4 ≠ 0) := ⟨he4⟩
          have HBE : Hid (∀ W', W'.heap.size = wr.heap.size → W'.os = wr.os → W'.tape = wr.tape → W'.output = wr.output → (∀ k, k < M → W'.heap[k]? = wr.heap[k]?) → Below M w W') := ⟨fun W' h1 h2 h3 h4 h5 => by
            have be := HO2.out.be
            exact ⟨h2.trans be.os, h3.trans be.tape, h4.trans be.output, by rw [h1]; exact be.size, fun k hk => (h5 k (by omega)).trans (be.block k (by omega))⟩⟩
          clear XB a3 a4 a5 O he4
          go_wp2
          go_quiet (fail)
          all_goals go_wp2
          all_goals go_region
          all_goals go_wp2
          all_goals exact bodyPost_ret (v := .tuple #[.agg #[nil3, nil3], .int .i64 e5, .int .i64 e4]) (by simp [results, Tryz.results7, go_sem, m0, m1]) rfl (HB.out _ _ _ _ ds (HBE.out _ (by simp) rfl rfl rfl (fun k hk => by rw [show (World.heap _) = _ from rfl]; rw [setCell_block _ _ _ _ (by simp; omega), setCell_block _ _ _ _ (by simp; omega)]; rfl)) HE4.out HD.out.1 HD.out.2 ⟨bs, HJ.out⟩)
        · simp only [Option.isNone_some] at c3
          have hk : k = us.length := by have := congrArg List.length (a3 [] rfl); simp at this; omega
          have hlt : ¬ (k : Int) < us.length := by omega
          clear XB a3 a4 a5 O hk
          go_wp2
          go_region_held3 (fun w' => w'.cell? ⟨b, 3, none⟩ = some (.bool false) ∧ w'.cell? ⟨b, 1, none⟩ = some (.int .i64 k) ∧ w'.cell? ⟨b, 0, none⟩ = some (.slice ga us.length cap)) (go_keep) (fail)
          all_goals go_wp2
          refine bodyPost_ret (v := .tuple #[.agg #[.slice gd ds.length cd, .slice gb bs.length cb], .int .i64 0, .int .i64 0]) (by simp [results, Tryz.results7, go_sem, m0, m1]) rfl (HO.out _ _ _ ds bs ?_ HD.out.1 HD.out.2 HJ.out ?_)
          · have be := HO2.out.be
            rw [hM] at be
            refine ⟨be.os, be.tape, be.output, ?_, fun k hk => ?_⟩
            · have := be.size
              simpa using this
            · show ((wr.setCell ⟨M, 0, none⟩ (.slice gd ds.length cd)).setCell ⟨M, 1, none⟩ (.slice gb bs.length cb)).heap[k]? = _
              rw [setCell_block _ _ _ _ (by simp; omega), setCell_block _ _ _ _ (by simp; omega)]
              exact be.block k hk
          · have K0 : Keeps (fun g => X < g ∧ g < wr.heap.size) (new w ((wr.setCell ⟨M, 0, none⟩ (.slice gd ds.length cd)).setCell ⟨M, 1, none⟩ (.slice gb bs.length cb)).drew) wr ((wr.setCell ⟨M, 0, none⟩ (.slice gd ds.length cd)).setCell ⟨M, 1, none⟩ (.slice gb bs.length cb)).drew := ⟨fun g off u hg hc => by
                have h1 := (grown_set wr M 0 (.slice gd ds.length cd)).cell hc (fun e => by have e' : g = M := Option.some.inj e; have := hg.1; omega)
                have h2 := (grown_set _ M 1 (.slice gb bs.length cb)).cell h1 (fun e => by have e' : g = M := Option.some.inj e; have := hg.1; omega)
                exact h2, fun g hg => ⟨by have := hg.1; omega, by have := hg.2; simpa using this⟩⟩
            have K1 : Keeps (inn X wr (.slice gb bs.length cb)) (new w ((wr.setCell ⟨M, 0, none⟩ (.slice gd ds.length cd)).setCell ⟨M, 1, none⟩ (.slice gb bs.length cb)).drew) wr ((wr.setCell ⟨M, 0, none⟩ (.slice gd ds.length cd)).setCell ⟨M, 1, none⟩ (.slice gb bs.length cb)).drew := ⟨fun g off u hg hc => K0.cell g off u ⟨hg.1, hg.2.1⟩ hc, fun g hg => K0.ok g ⟨hg.1, hg.2.1⟩⟩
            have RB : IsRow wr (fun g => X < g ∧ g < wr.heap.size) xb bs.length (.slice gb bs.length cb) := row_of_owns OW (fun g hg => ⟨by have := (OW.lt g hg).1; omega, (OW.lt g hg).2⟩) (by omega)
            exact ⟨_, _, xb, rfl, IsRow.keeps K1 HID.out, IsRow.keeps K0 RB, isBs_keeps K1 bs xb HIB.out⟩
        · simp only [Option.isNone_some] at c3
          have hk : k < us.length := by have := congrArg List.length (a3 _ rfl); simp at this; omega
          have hlt : (k : Int) < us.length := by omega
          clear XB a3 a4 a5 O hk
          go_wp2
          go_region_held3 (fun w' => w'.cell? ⟨b, 3, none⟩ = some (.bool false) ∧ w'.cell? ⟨b, 1, none⟩ = some (.int .i64 k) ∧ w'.cell? ⟨b, 0, none⟩ = some (.slice ga us.length cap)) (go_keep) (fail)
          all_goals go_wp2
          have O := HO2.out.drew
          have hbX : b ≤ X := by omega
          have F0 := (Fr.refl b wr).drew
          have KI := keeps_inn (v := .slice gb bs.length cb) F0 hbX
          have HIB : Hid (isBs wr.drew (inn X wr.drew (.slice gb bs.length cb)) bs xb) := ⟨isBs_keeps KI bs xb HIB.out⟩
          have HID : Hid (IsRow wr.drew (inn X wr.drew (.slice gb bs.length cb)) (datC ds) ds.length (.slice gd ds.length cd)) := ⟨IsRow.keeps KI HID.out⟩
          have OW := OW.drew
          rename_i hHeld
          clear HO2 F0 KI c0 c1 c3 c4 c5 x0 x1 m0 m1 z0 z1 hHeld
          generalize wr.drew = W at *
          have BI := rbind_any (exp_allR 60 (by omega)) (k := 1) (by omega) O.rd.drew
          have x5 : W.cell? ⟨X, 1, none⟩ = some (.slice gb bs.length cb) := O.x.cell 1
          have HO : Hid (Po _ _ _ _ _ _ _ _) := ⟨O⟩
          have hvb : ∀ i, (Value.slice gb bs.length cb : Value).ownBlock = some i → i < W.drew.heap.size := fun i hi => (OW.lt i hi).2
          have hXs : X < W.heap.size := O.lts.2.2
          obtain ⟨i0, hi, hz0, hz1, hz2⟩ := info_parts info51
          have hlb2 : bs.length ≤ 16385 := by omega
          have HL : Hid (bs.length + leftO (some (t :: q)) ≤ 16385) := ⟨hl⟩
          clear O hl
          go_region_law (first
            | (refine step_append_lies _ (by rfl) _ _ _ (by rfl) (X + 1) 51 i0 _ 11 184 Tryz.underlying23 hi hz0 hz1 hz2 rfl (by decide) (.slice gb bs.length cb) bs.length xb (by rfl) (own_alloc OW4 _) ⟨_, 0, none⟩ 1 1 [.string s0, .int .i64 a0, .slice g3 n3 c3, .int .i64 k0, .int .i64 a1, .string s1, .int .i64 m1, .slice g4 n4 c4, .slice g5 n5 c5, .slice g6 n6 c6, .slice g7 n7 c7] (by rfl) rfl (World.news_of_block (heap_alloc_new _ _)) (by simp [Value.oneCell']) (by decide) (by unfold maxLen; omega) (by omega) (by simp; omega) _ rfl ?_; intro q5 cap5 w5 ho hg hat hlt; have O5 := (O4.alloc _).row (own_alloc OW4 _) hg; have y5 : w5.cell? ⟨X, 1, none⟩ = some (.slice gb bs.length cb) := O5.x.cell 1; have z5 : w5.frozen? ⟨X, 1, none⟩ = false := O5.x.z 1; have KO := keeps_old (j := 1) (u := .slice (some ⟨q5, 0, none⟩) (bs.length + 1) cap5) (m := bs.length + 1) (cap := cap5) ((Fr.refl b W).drew.trans HF4.out) hbX hg hat; have KN := keeps_new (j := 1) (u := .slice (some ⟨q5, 0, none⟩) (bs.length + 1) cap5) (m := bs.length + 1) (cap := cap5) (X := X) hvb hXs HF4.out.size hg hat; clear hg hat hlt)
            | (go_simp; go_at_call 16; refine BI.mono ?_; rintro e w4 ⟨F4, R4, x4, v4, rfl, ⟨c, rfl, I4⟩, hx4⟩; obtain ⟨k0, a1, m1, a0, s1, s0, g3, g4, g5, g6, g7, n3, n4, n5, n6, n7, c3, c4, c5, c6, c7, rfl⟩ := isB_eleven I4; have HI4 : Hid (isB _ _ _ _) := ⟨I4⟩; have HX4 : Hid (Rt _ _ _) := ⟨hx4⟩; have O4 := (HO.out.drew).call F4 R4; have OW4 := own_call (OW.drew) F4 hbX; have HF4 : Hid (Fr b W.drew w4) := ⟨F4⟩; have y4 : w4.cell? ⟨X, 1, none⟩ = some (.slice gb bs.length cb) := O4.x.cell 1; have lt4 := O4.lts.2.2; clear F4 R4 I4 hx4))
          all_goals go_wp2
          all_goals
            have hlt := left_lt (bind_eats 60) (t :: q)
            refine ⟨⟨bs ++ [x4], _, .slice (some ⟨q5, 0, none⟩) (bs.length + 1) cap5, xb ++ [.string s0, .int .i64 a0, .slice g3 n3 c3, .int .i64 k0, .int .i64 a1, .string s1, .int .i64 m1, .slice g4 n4 c4, .slice g5 n5 c5, .slice g6 n6 c6, .slice g7 n7 c7], O5.store 1 _, ⟨BinJ.more HJ.out HX4.out⟩, by have := HL.out; rw [List.length_append]; simp only [List.length_cons, List.length_nil]; omega, by rw [List.length_append]; exact own_store ho 1 _, ⟨isBs_snoc bs x4 xb _ (isBs_keeps KO bs xb HIB.out) (isB_keeps KN x4 _ HI4.out)⟩, ⟨IsRow.keeps KO HID.out⟩⟩, ?_⟩
            rw [(O5.store 1 _).rd.mz, HM.out]
            exact hlt
theorem rparse_any (s : ByteArray) (w : World) (L : Laid w) : Calls Tryz.prog 7 #[.string s] w (ParsesR s.data.toList w) := by
  rcases hs : scanAll s.data.toList with ⟨a, c⟩ | ts
  · exact rparse_bad s w L hs
  · exact rparse_good s w L hs

end Go.Proofs.YtofgnpehlheeiaaGreatDoor
