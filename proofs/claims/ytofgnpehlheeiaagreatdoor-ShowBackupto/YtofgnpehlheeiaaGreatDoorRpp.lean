/- The document's Parse: the plain side; expressions at every depth. -/
import Derived.Test.YtofgnpehlheeiaaGreatDoorRap
import Derived.Test.YtofgnpehlheeiaaGreatDoorRlt
import Derived.Test.YtofgnpehlheeiaaGreatDoorRcs
namespace Go.Proofs.YtofgnpehlheeiaaGreatDoor
open Go.RowKit
set_option linter.unusedVariables false
set_option linter.unusedSimpArgs false

def datasK (ds : List D) (l : List Tok) : PR (List D) := andT (pDatas (l.length + 1) l) fun ds' r => .ok (ds ++ ds', r)
theorem datasK_end (ds : List D) (l : List Tok) (h : isS [100, 97, 116, 97] l = false) : datasK ds l = .ok (ds, l) := by
  simp [datasK, pDatas, h, andT]
theorem pData_le {l r : List Tok} {d : D} (h : pData l = .ok (d, r)) : r.length < l.length := by
  unfold pData at h
  obtain ⟨c, r1, h1, h⟩ := andT_ok h
  obtain ⟨u, r2, h2, h⟩ := andT_ok h
  obtain ⟨_, r3, h3, h⟩ := andT_ok h
  obtain ⟨e1, _⟩ := pKind_eats h1
  obtain ⟨e2, _⟩ := pKind_eats h2
  obtain ⟨_, v, e3⟩ := pWant_eats h3
  cases h
  subst e1 e2 e3
  simp only [List.length_cons]
  omega
theorem datasK_more (ds : List D) (t : Tok) (q : List Tok) (h : isS [100, 97, 116, 97] (t :: q) = true) : datasK ds (t :: q) = andT (pData q) fun d r => datasK (ds ++ [d]) r := by
  unfold datasK
  rw [datas_step _ h]
  rcases e : pData q with x | ⟨d, r⟩
  · rfl
  · have := pData_le e
    simp only [andT]
    rw [datas_more (t :: q).length (r.length + 1) r (by simp only [List.length_cons]; omega) (by omega)]
    rcases pDatas (r.length + 1) r with x | ⟨ds', r'⟩
    · rfl
    · simp
def bindsK (bs : List B) (l : List Tok) : PR (List B) := andT (pBinds (l.length + 1) l) fun bs' r => .ok (bs ++ bs', r)
theorem bindsK_end (bs : List B) : bindsK bs [] = .ok (bs, []) := by simp [bindsK, pBinds, andT]
theorem bindsK_more (bs : List B) (t : Tok) (q : List Tok) : bindsK bs (t :: q) = andT (pBind (pExp 60) (t :: q)) fun x r => bindsK (bs ++ [x]) r := by
  unfold bindsK
  simp only [pBinds]
  rcases e : pBind (pExp 60) (t :: q) with x | ⟨d, r⟩
  · rfl
  · have := bind_eats 60 _ _ _ e
    simp only [andT]
    rw [binds_more (t :: q).length (r.length + 1) r (by omega) (by omega)]
    rcases pBinds (r.length + 1) r with x | ⟨ds', r'⟩
    · rfl
    · simp
theorem prog_K (l : List Tok) : pProg l = andT (datasK [] l) fun ds r => andT (bindsK [] r) fun bs r => .ok (⟨ds, bs⟩, r) := by
  unfold pProg datasK bindsK
  rcases pDatas (l.length + 1) l with x | ⟨ds, r⟩
  · rfl
  · simp only [andT, List.nil_append]
    rcases pBinds (r.length + 1) r with x | ⟨bs, r'⟩ <;> rfl
theorem datC_snoc (l : List D) (d : D) : datC (l ++ [d]) = datC l ++ [.string (str d.name), .int .i64 d.arity, .int .i64 d.at'] := by simp [datC]
theorem errs_scanF : ∀ f l a e, scanF f l a = .error e → e.2 ≠ 0
  | 0, _, _, _, h => by cases h
  | f + 1, l, a, e, h => by
    by_cases hk : skipN false l < l.length
    · rcases hr : readT (l.drop (skipN false l)) with e' | t
      · rw [scanF_err _ _ _ hk hr] at h
        cases h
        have := readT_err hr
        simp only
        omega
      · rw [scanF_ok _ _ _ hk hr] at h
        rcases hq : scanF f ((l.drop (skipN false l)).drop t.len) (a + skipN false l + t.len) with e' | us
        · rw [hq] at h
          cases h
          exact errs_scanF f _ _ _ hq
        · rw [hq] at h
          cases h
    · rw [scanF_end _ _ _ hk] at h
      cases h
theorem errs_scan {l : List UInt8} {a : Nat} {c : Int} (h : scanAll l = .error (a, c)) : c ≠ 0 := by
  unfold scanAll at h
  split at h
  · cases h; decide
  · exact errs_scanF _ _ _ _ h
theorem parse_scan_err {l : List UInt8} {e} (h : scanAll l = .error e) : parseT l = .error e := by unfold parseT; rw [h]
theorem parse_isok {l : List UInt8} {ts r : List Tok} {p : Pg} (h : scanAll l = .ok ts) (k : pProg ts = .ok (p, r)) : parseT l = .ok p := by unfold parseT; rw [h]; simp only [k]
theorem parse_err {l : List UInt8} {ts r : List Tok} {c : Int} (h : scanAll l = .ok ts) (k : pProg ts = .error (c, r)) : parseT l = .error (placeT l.length r, c) := by unfold parseT; rw [h]; simp only [k]

theorem scanF_len : ∀ f l a ts, scanF f l a = .ok ts → ts.length ≤ l.length
  | 0, _, _, _, h => by cases h; simp
  | f + 1, l, a, ts, h => by
    by_cases hk : skipN false l < l.length
    · rcases hr : readT (l.drop (skipN false l)) with e | t
      · rw [scanF_err _ _ _ hk hr] at h; cases h
      · rw [scanF_ok _ _ _ hk hr] at h
        rcases hq : scanF f ((l.drop (skipN false l)).drop t.len) (a + skipN false l + t.len) with e | us
        · rw [hq] at h; cases h
        · rw [hq] at h
          cases h
          have ih := scanF_len f _ _ _ hq
          have tl := readT_len hr
          simp only [List.length_drop, List.length_append, List.length_cons, List.length_nil] at *
          omega
    · rw [scanF_end _ _ _ hk] at h
      cases h
      simp
theorem scan_len {l : List UInt8} {ts : List Tok} (h : scanAll l = .ok ts) : ts.length ≤ 16384 := by
  unfold scanAll at h
  split at h
  · cases h
  · have := scanF_len _ _ _ _ h
    omega
theorem exp_allR : ∀ d, d ≤ 60 → ExpR d
  | 0, _ => fun k hk w b o n R => exp_deep (d := 0) (by omega) R
  | d + 1, hd => fun k hk w b o n R => by
    have hE := exp_allR d (by omega)
    have hk' : k = 60 - d := by omega
    have h0 : 0 ≤ k := by omega
    have h60 : k ≤ 60 := by omega
    rcases o with _ | l
    · exact exp_bad h60 R
    · by_cases hm : ∃ t r, some l = some (t :: r) ∧ (t.kind = 4 ∨ t.kind = 1 ∨ t.kind = 2 ∨ t.kind = 3)
      · obtain ⟨t, r, e, h | h | h | h⟩ := hm
        · cases e; exact exp_int h60 R h
        · cases e; exact exp_name h60 R h
        · cases e; exact exp_con h60 R h
        · cases e; exact exp_prim h60 R h
      · have part : ∀ s : List UInt8, isR s (some l) = true → ∃ t r, l = t :: r ∧ ¬ (t.kind = 4 ∨ t.kind = 1 ∨ t.kind = 2 ∨ t.kind = 3) := fun s hs => by
          cases l with
          | nil => cases hs
          | cons t r => exact ⟨t, r, rfl, fun q => hm ⟨t, r, rfl, q⟩⟩
        cases ia : isR [108, 101, 116] (some l) with
        | true =>
          obtain ⟨t, r, rfl, hn⟩ := part _ ia
          exact exp_let h0 hE hk' R hn ia
        | false =>
          cases ib : isR [99, 97, 115, 101] (some l) with
          | true =>
            obtain ⟨t, r, rfl, hn⟩ := part _ ib
            exact exp_case h0 hE hk' R hn ia ib
          | false =>
            cases ic : isR [40] (some l) with
            | true =>
              obtain ⟨t, r, rfl, hn⟩ := part _ ic
              exact exp_par h0 hE hk' R hn ia ib ic
            | false => exact ex_none h60 R (by simp) hm ia ib ic

def DatJ (oS : Option (List Tok)) (ds : List D) (o : Option (List Tok)) : Prop := runO (datasK []) oS = runO (datasK ds) o ∧ ∀ ys, Rt (datasK ds) o ys → Rt (datasK []) oS ys
def BinJ (oS : Option (List Tok)) (bs : List B) (o : Option (List Tok)) : Prop := runO (bindsK []) oS = runO (bindsK bs) o ∧ ∀ ys, Rt (bindsK bs) o ys → Rt (bindsK []) oS ys
theorem data_rt {o : Option (List Tok)} {c m : Tok} (h1 : Rt (pKind 2) o c) (h2 : Rt (pKind 4) (runO (pKind 2) o) m) : runO pData o = runO (pWant [59]) (runO (pKind 4) (runO (pKind 2) o)) ∧ Rt pData o ⟨c.text, m.num, c.at'⟩ := by
  have s1 := (Stp.mk (q := pData) (fun l => rfl)).rt h1
  have s2 := (Stp.mk (p := pKind 4) (f := fun m r => andT (pWant [59] r) fun _ r => Except.ok ((⟨c.text, m.num, c.at'⟩ : D), r)) (q := fun r => _) (fun l => rfl)).rt h2
  have s3 := (Stp.mk (p := pWant [59]) (f := fun _ r => (Except.ok ((⟨c.text, m.num, c.at'⟩ : D), r) : PR D)) (q := fun r => _) (fun l => rfl)).rt (rt_want [59] (runO (pKind 4) (runO (pKind 2) o)))
  have s4 := rt_ret (⟨c.text, m.num, c.at'⟩ : D) (runO (pWant [59]) (runO (pKind 4) (runO (pKind 2) o)))
  exact ⟨s1.1.trans (s2.1.trans (s3.1.trans s4.1)), s1.2 _ (s2.2 _ (s3.2 _ s4.2))⟩
section
variable {oS : Option (List Tok)} {ds : List D} {bs : List B}
theorem DatJ.more {t : Tok} {q : List Tok} {x : D} (h : DatJ oS ds (some (t :: q))) (hs : isS [100, 97, 116, 97] (t :: q) = true) (hx : Rt pData (some q) x) : DatJ oS (ds ++ [x]) (runO pData (some q)) := by
  have e' : ∀ {p q' : List Tok → PR (List D)}, p (t :: q) = q' q → runO p (some (t :: q)) = runO q' (some q) ∧ valO p (some (t :: q)) = valO q' (some q) := fun h => by simp only [runO, valO, h, and_self]
  obtain ⟨e1, e2⟩ := e' (p := datasK ds) (q' := fun l => andT (pData l) fun x r => datasK (ds ++ [x]) r) (datasK_more ds t q hs)
  have s := (Stp.mk (p := pData) (f := fun x r => datasK (ds ++ [x]) r) (q := fun l => andT (pData l) fun x r => datasK (ds ++ [x]) r) (fun l => rfl)).rt hx
  exact ⟨h.1.trans (e1.trans s.1), fun ys hy => h.2 ys (fun y q => s.2 ys hy y (by rw [← e2]; exact q))⟩
theorem DatJ.close {o : Option (List Tok)} (h : DatJ oS ds o) (hs : isR [100, 97, 116, 97] o = false) : runO (datasK []) oS = o ∧ Rt (datasK []) oS ds := by
  cases o with
  | none => exact ⟨h.1, h.2 ds (fun y q => by cases q)⟩
  | some l =>
    obtain ⟨a1, a2⟩ := runO_some (p := datasK ds) (datasK_end ds l hs)
    exact ⟨by rw [h.1, a1], h.2 ds (fun y q => by rw [a2] at q; cases q; rfl)⟩
theorem BinJ.more {t : Tok} {q : List Tok} {x : B} (h : BinJ oS bs (some (t :: q))) (hx : Rt (pBind (pExp 60)) (some (t :: q)) x) : BinJ oS (bs ++ [x]) (runO (pBind (pExp 60)) (some (t :: q))) := by
  obtain ⟨e1, e2⟩ := at_eq (p := bindsK bs) (q := fun l => andT (pBind (pExp 60) l) fun x r => bindsK (bs ++ [x]) r) (bindsK_more bs t q)
  have s := (Stp.mk (p := pBind (pExp 60)) (f := fun x r => bindsK (bs ++ [x]) r) (q := fun l => andT (pBind (pExp 60) l) fun x r => bindsK (bs ++ [x]) r) (fun l => rfl)).rt hx
  exact ⟨h.1.trans (e1.trans s.1), fun ys hy => h.2 ys (fun y q => s.2 ys hy y (by rw [← e2]; exact q))⟩
theorem BinJ.close (h : BinJ oS bs (some [])) : runO (bindsK []) oS = some [] ∧ Rt (bindsK []) oS bs := by
  obtain ⟨a1, a2⟩ := runO_some (p := bindsK bs) (bindsK_end bs)
  exact ⟨by rw [h.1, a1], h.2 bs (fun y q => by rw [a2] at q; cases q; rfl)⟩
end
theorem prog_rt {ts : List Tok} {ds : List D} {bs : List B} {oD oB : Option (List Tok)} (h1 : runO (datasK []) (some ts) = oD) (h2 : Rt (datasK []) (some ts) ds) (h3 : runO (bindsK []) oD = oB) (h4 : Rt (bindsK []) oD bs) : runO pProg (some ts) = oB ∧ Rt pProg (some ts) ⟨ds, bs⟩ := by
  subst h1 h3
  have s1 := (Stp.mk (q := pProg) prog_K).rt h2
  have s2 := (Stp.mk (p := bindsK []) (f := fun bs r => (Except.ok ((⟨ds, bs⟩ : Pg), r) : PR Pg)) (q := fun r => _) (fun l => rfl)).rt h4
  have s3 := rt_ret (⟨ds, bs⟩ : Pg) (runO (bindsK []) (runO (datasK []) (some ts)))
  exact ⟨s1.1.trans (s2.1.trans s3.1), s1.2 _ (s2.2 _ s3.2)⟩
theorem parse_of_run {s : List UInt8} {ts : List Tok} (hs : scanAll s = .ok ts) {l : List Tok} {p : Pg} (h : runO pProg (some ts) = some l) (hp : Rt pProg (some ts) p) : parseT s = .ok p := by
  cases hv : valO pProg (some ts) with
  | none => rw [val_run hv] at h; cases h
  | some q =>
    have e := hp q hv
    subst e
    obtain ⟨l', r, e1, e2, _⟩ := valO_some hv
    cases e1
    exact parse_isok hs e2
theorem parse_of_none {s : List UInt8} {ts : List Tok} (hs : scanAll s = .ok ts) (h : runO pProg (some ts) = none) : ∀ p, parseT s ≠ .ok p := by
  intro p hp
  unfold parseT at hp
  rw [hs] at hp
  simp only [runO] at h
  split at h
  · cases h
  · rename_i e he
    obtain ⟨c, r⟩ := e
    simp only [he] at hp
    cases hp

end Go.Proofs.YtofgnpehlheeiaaGreatDoor
