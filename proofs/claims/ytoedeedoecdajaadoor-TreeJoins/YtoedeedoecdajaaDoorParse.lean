/- Layer 6: which faults there are: none of them is 0. Of no program. -/
import Derived.Test.YtoedeedoecdajaaDoorTreeGood
import Derived.Test.YtoedeedoecdajaaDoorJust
import Derived.Test.YtoedeedoecdajaaDoorProgs
import Derived.Test.YtoedeedoecdajaaDoorScan
import Derived.Defers
import Derived.Recover
namespace Go.Proofs.YtoedeedoecdajaaDoor
set_option linter.unusedVariables false

def Errs {α : Type} (p : PR α) : Prop := ∀ e r, p = .error (e, r) → e ≠ 0
theorem Errs.ok {α : Type} (x : α × List Tok) : Errs (α := α) (.ok x) := fun _ _ h => by cases h
theorem Errs.and {α β : Type} {p : PR α} {f : α → List Tok → PR β} (h : Errs p) (k : ∀ a r, Errs (f a r)) : Errs (andT p f) := fun e r he => by
  rcases p with ⟨e', r'⟩ | ⟨a, r'⟩
  · simp only [andT] at he
    cases he
    exact h _ _ rfl
  · exact k a r' e r he
theorem errs_kind (k : Int) (l : List Tok) : Errs (pKind k l) := fun e r h => by
  cases l with
  | nil => cases h; decide
  | cons t q =>
    simp only [pKind] at h
    split at h
    · cases h
    · cases h; decide
theorem errs_want (s : List UInt8) (l : List Tok) : Errs (pWant s l) := fun e r h => by
  unfold pWant at h
  split at h
  · cases h
  · cases h; decide
theorem errs_args (l : List Tok) : Errs (pArgs l) := by
  unfold pArgs
  split
  · exact (errs_kind _ _).and fun _ _ => (errs_want _ _).and fun _ _ => Errs.ok _
  · exact Errs.ok _
theorem errs_bind {ex : List Tok → PR E} (he : ∀ l, Errs (ex l)) (l : List Tok) : Errs (pBind ex l) :=
  (errs_kind _ _).and fun _ _ => (errs_want _ _).and fun _ _ => (errs_args _).and fun _ _ => (he _).and fun _ _ => (errs_want _ _).and fun _ _ => Errs.ok _
theorem errs_head (l : List Tok) : Errs (pHead l) := fun e r h => by
  cases l with
  | nil => cases h; decide
  | cons t q =>
    simp only [pHead] at h
    repeat' split at h
    all_goals first | (cases h; done) | (cases h; decide)
theorem errs_alt {ex : List Tok → PR E} (he : ∀ l, Errs (ex l)) (l : List Tok) : Errs (pAlt ex l) :=
  (errs_head _).and fun _ _ => (errs_want _ _).and fun _ _ => (he _).and fun _ _ => (errs_want _ _).and fun _ _ => Errs.ok _
theorem errs_manyF {α : Type} {one : List Tok → PR α} (h : ∀ l, Errs (one l)) : ∀ n l, Errs (manyF one n l)
  | 0, l => fun e r he => by cases he; decide
  | n + 1, l => by
    unfold manyF
    refine (h l).and fun x r => ?_
    split
    · exact Errs.ok _
    · exact (errs_manyF h n r).and fun _ _ => Errs.ok _
theorem errs_exp : ∀ d l, Errs (pExp d l)
  | 0, [] => fun e r he => by cases he; decide
  | 0, t :: q => fun e r he => by cases he; decide
  | d + 1, [] => fun e r he => by cases he; decide
  | d + 1, t :: q => by
    have ih := errs_exp d
    unfold pExp
    repeat' split
    · exact Errs.ok _
    · exact Errs.ok _
    · exact (errs_want _ _).and fun _ _ => (errs_manyF (errs_bind ih) _ _).and fun _ _ => (errs_want _ _).and fun _ _ => (ih _).and fun _ _ => Errs.ok _
    · exact (ih _).and fun _ _ => (errs_want _ _).and fun _ _ => (errs_want _ _).and fun _ _ => (errs_manyF (errs_alt ih) _ _).and fun _ _ => Errs.ok _
    · exact (ih _).and fun _ _ => (errs_want _ _).and fun _ _ => Errs.ok _
    · exact fun e r he => by cases he; decide
theorem errs_data (l : List Tok) : Errs (pData l) := (errs_kind _ _).and fun _ _ => (errs_kind _ _).and fun _ _ => (errs_want _ _).and fun _ _ => Errs.ok _
theorem errs_datas : ∀ n l, Errs (pDatas n l)
  | 0, l => Errs.ok _
  | n + 1, l => by
    unfold pDatas
    split
    · exact (errs_data _).and fun _ _ => (errs_datas n _).and fun _ _ => Errs.ok _
    · exact Errs.ok _
theorem errs_binds : ∀ n l, Errs (pBinds n l)
  | 0, l => Errs.ok _
  | n + 1, [] => Errs.ok _
  | n + 1, t :: q => (errs_bind (errs_exp 60) _).and fun _ _ => (errs_binds n _).and fun _ _ => Errs.ok _
theorem errs_prog (l : List Tok) : Errs (pProg l) := (errs_datas _ _).and fun _ _ => (errs_binds _ _).and fun _ _ => Errs.ok _
theorem errs_scanF : ∀ f l a e, scanF f l a = .error e → e.2 ≠ 0
  | 0, _, _, _, h => by cases h
  | f + 1, l, a, e, h => by
    by_cases hk : skipN false l < l.length
    · rcases hr : readT (l.drop (skipN false l)) with e' | t
      · rw [scanF_err _ _ _ hk hr] at h
        cases h
        have := readT_err hr
        simp only
        omega
      · rw [scanF_ok _ _ _ hk hr] at h
        rcases hq : scanF f ((l.drop (skipN false l)).drop t.len) (a + skipN false l + t.len) with e' | us
        · rw [hq] at h
          cases h
          exact errs_scanF f _ _ _ hq
        · rw [hq] at h
          cases h
    · rw [scanF_end _ _ _ hk] at h
      cases h
theorem errs_scan {l : List UInt8} {a : Nat} {c : Int} (h : scanAll l = .error (a, c)) : c ≠ 0 := by
  unfold scanAll at h
  split at h
  · cases h; decide
  · exact errs_scanF _ _ _ _ h
theorem parse_scan_err {l : List UInt8} {e} (h : scanAll l = .error e) : parseT l = .error e := by unfold parseT; rw [h]
theorem parse_isok {l : List UInt8} {ts r : List Tok} {p : Pg} (h : scanAll l = .ok ts) (k : pProg ts = .ok (p, r)) : parseT l = .ok p := by unfold parseT; rw [h]; simp only [k]
theorem parse_err {l : List UInt8} {ts r : List Tok} {c : Int} (h : scanAll l = .ok ts) (k : pProg ts = .error (c, r)) : parseT l = .error (placeT l.length r, c) := by unfold parseT; rw [h]; simp only [k]

end Go.Proofs.YtoedeedoecdajaaDoor

/- Package tree's Parse: what gives up is recovered. -/
namespace Go.Proofs.YtoedeedoecdajaaDoor
open Go.RowKit
set_option linter.unusedVariables false
set_option linter.unusedSimpArgs false

theorem grown_set (w : World) (m j : Nat) (v : Value) : w.grownBy (w.setCell ⟨m, j, none⟩ v) (some m) := ⟨rfl, rfl, rfl, by simp, fun i _ hb => setCell_block _ _ _ _ (fun e => hb (by rw [e]))⟩
theorem catch_idle (p0 p1 p2 p3 : Value) (w : World) :
    CallsD Tryd.prog 21 #[p0, p1, p2, p3] .returning w fun e u' w' => e = .returned (.tuple #[]) ∧ u' = .returning ∧ w' = w := by
  refine callsD_of_wpS Tryd.func21 rfl fun c₀ cs hu => ?_
  apply wpS_seq
  apply wpS_region
  simp [wpOpsS, go_sem, recoverD, hu, Tryd.ntmps21, Exit.thenS]
  refine wpS_cond (t := false) (by simp [Act.eval, Array.replicate]) ?_
  simp only [Bool.false_eq_true, if_false]
  refine wpS_of_wp (wp_skip ?_)
  cases c₀
  simp_all [bodyPostS, results, Tryd.results21]
/-- the place of the token that is next -/
def placeZ (n : Int) : List Tok → Int
  | [] => n
  | t :: _ => t.at'
theorem hd_form (l : List Tok) (n : Int) : ∃ k x m, hdV l n = .agg #[k, x, m, .int .i64 (placeZ n l)] := by
  cases l <;> exact ⟨_, _, _, rfl⟩
theorem catch_pan {w : World} {b a : Nat} {l : List Tok} {n c : Int} {v0 v1 v2 v3 : Value} (R : Rd w b l n c) (A0 : Blk w a #[v0, v1] 25) (A1 : Blk w (a + 1) #[v2] 3) (A2 : Blk w (a + 2) #[v3] 28) (hab : a + 2 < b) :
    CallsD Tryd.prog 21 #[ptr b, ptr a, ptr (a + 1), ptr (a + 2)] (.panicking [{ v := .iface 28 (.int .i64 c), recovered := false }]) w fun e u' w' =>
      e = .returned (.tuple #[]) ∧ u' = .panicking [{ v := .iface 28 (.int .i64 c), recovered := true }] ∧ Below a w w' ∧ Blk w' a #[nil3, nil3] 25 ∧ Blk w' (a + 1) #[.int .i64 (placeZ n l)] 3 ∧ Blk w' (a + 2) #[.int .i64 c] 28 := by
  have N := fun (W : World) (h : Rd W b l n c) => look_any h
  obtain ⟨hk, hx, hm, hh⟩ := hd_form l n
  simp only [hh] at N
  refine callsD_of_wpS Tryd.func21 rfl fun c₀ cs hu => ?_
  apply wpS_seq
  apply wpS_region
  simp [wpOpsS, go_sem, recoverD, hu, Tryd.ntmps21, Exit.thenS]
  refine wpS_cond (t := true) (by simp [Act.eval, Array.replicate]) ?_
  simp only [if_true]
  refine wpS_of_wp ?_
  have hT0 : ¬ a = a + 1 := by omega
  have hT1 : ¬ a + 1 = a := by omega
  have hT2 : ¬ a = a + 2 := by omega
  have hT3 : ¬ a + 2 = a := by omega
  have hT4 : ¬ a + 1 = a + 2 := by omega
  have hT5 : ¬ a + 2 = a + 1 := by omega
  have hT6 : ¬ b = a := by omega
  have hT7 : ¬ b = a + 1 := by omega
  have hT8 : ¬ b = a + 2 := by omega
  have hU6 : ¬ a = b := by omega
  have hU7 : ¬ a + 1 = b := by omega
  have hU8 : ¬ a + 2 = b := by omega
  have c2 := R.c2
  have f3 := field3
  change Code.wp _ _ _ { tmps := #[ptr b, ptr a, ptr (a + 1), ptr (a + 2), .iface 28 (.int .i64 c), .bool true, undef, undef, undef, undef, undef], defers := [] } w
  go_region_held3 (fun w' => w'.cell? ⟨b, 2, none⟩ = some (.int .i64 c)) (go_keep) (first
    | (go_at_call 22; refine (N _ R.drew).mono ?_; rintro e w4 ⟨rfl, o, hw⟩; have G : w.grownBy w4 none := (by subst hw; exact ⟨rfl, rfl, rfl, by simp, fun i hi _ => ((grown_alloc w.drew o).block i hi (by simp))⟩); have D0 := A0.kept G (by simp); have D1 := A1.kept G (by simp); have D2 := A2.kept G (by simp); have m0 : w4.cell? ⟨a, 0, none⟩ = some v0 := D0.cell 0; have m1 : w4.cell? ⟨a, 1, none⟩ = some v1 := D0.cell 1; have m2 : w4.cell? ⟨a + 1, 0, none⟩ = some v2 := D1.cell 0; have m3 : w4.cell? ⟨a + 2, 0, none⟩ = some v3 := D2.cell 0; have mz0 : ∀ j, w4.frozen? ⟨a, j, none⟩ = false := D0.z; have mz1 : ∀ j, w4.frozen? ⟨a + 1, j, none⟩ = false := D1.z; have mz2 : ∀ j, w4.frozen? ⟨a + 2, j, none⟩ = false := D2.z; have x2 : w4.cell? ⟨b, 2, none⟩ = some (.int .i64 c) := G.cell c2 (by simp); have HG : Hid (w.grownBy w4 none) := ⟨G⟩; clear hw G))
  have B0 : Blk ((w4.setCell ⟨a, 0, none⟩ nil3).setCell ⟨a, 1, none⟩ nil3) a #[nil3, nil3] 25 := Joins.block_setCell (i := 1) (Joins.block_setCell (i := 0) D0 nil3) nil3
  have B1 : Blk ((w4.setCell ⟨a, 0, none⟩ nil3).setCell ⟨a, 1, none⟩ nil3) (a + 1) #[v2] 3 := (D1.kept (grown_set _ a 0 nil3) (by simp)).kept (grown_set _ a 1 nil3) (by simp)
  have B2 : Blk ((w4.setCell ⟨a, 0, none⟩ nil3).setCell ⟨a, 1, none⟩ nil3) (a + 2) #[v3] 28 := (D2.kept (grown_set _ a 0 nil3) (by simp)).kept (grown_set _ a 1 nil3) (by simp)
  have F0 : Blk ((((w4.setCell ⟨a, 0, none⟩ nil3).setCell ⟨a, 1, none⟩ nil3).setCell ⟨a + 1, 0, none⟩ (.int .i64 (placeZ n l))).setCell ⟨a + 2, 0, none⟩ (.int .i64 c)) a #[nil3, nil3] 25 := (B0.kept (grown_set _ (a + 1) 0 _) (by simp)).kept (grown_set _ (a + 2) 0 _) (by simp)
  have F1 : Blk ((((w4.setCell ⟨a, 0, none⟩ nil3).setCell ⟨a, 1, none⟩ nil3).setCell ⟨a + 1, 0, none⟩ (.int .i64 (placeZ n l))).setCell ⟨a + 2, 0, none⟩ (.int .i64 c)) (a + 1) #[.int .i64 (placeZ n l)] 3 := Blk.kept (cs := #[.int .i64 (placeZ n l)]) (Joins.block_setCell (i := 0) B1 (.int .i64 (placeZ n l))) (grown_set _ (a + 2) 0 _) (by simp)
  have F2 : Blk ((((w4.setCell ⟨a, 0, none⟩ nil3).setCell ⟨a, 1, none⟩ nil3).setCell ⟨a + 1, 0, none⟩ (.int .i64 (placeZ n l))).setCell ⟨a + 2, 0, none⟩ (.int .i64 c)) (a + 2) #[.int .i64 c] 28 := Joins.block_setCell (i := 0) (B2.kept (grown_set _ (a + 1) 0 (.int .i64 (placeZ n l))) (by simp)) (.int .i64 c)
  have FB : Below a w ((((w4.setCell ⟨a, 0, none⟩ nil3).setCell ⟨a, 1, none⟩ nil3).setCell ⟨a + 1, 0, none⟩ (.int .i64 (placeZ n l))).setCell ⟨a + 2, 0, none⟩ (.int .i64 c)) := by
    have g := HG.out
    have ha : a < w.heap.size := A0.lt
    refine ⟨g.os, g.tape, g.output, by simpa using g.size, fun k hk => ?_⟩
    rw [setCell_block _ _ _ _ (by simp; omega), setCell_block _ _ _ _ (by simp; omega), setCell_block _ _ _ _ (by simp; omega), setCell_block _ _ _ _ (by simp; omega)]
    exact g.block k (by omega) (by simp)
  exact ⟨rfl, _, rfl, _, results_none rfl _ _ _, rfl, rfl, FB, F0, F1, F2⟩
theorem res10 {w : World} {h : Nat} {v0 v1 : Value} {x y : Int} {tmps : Array Value} (h2 : tmps.getD 2 undef = ptr h) (h3 : tmps.getD 3 undef = ptr (h + 1)) (h4 : tmps.getD 4 undef = ptr (h + 1 + 1)) (A0 : Blk w h #[v0, v1] 25) (A1 : Blk w (h + 1) #[.int .i64 x] 3) (A2 : Blk w (h + 1 + 1) #[.int .i64 y] 28) :
    (results Tryd.f10 tmps).run Tryd.prog w = .ok (.tuple #[.agg #[v0, v1], .int .i64 x, .int .i64 y]) w := by
  have k2 : tmps[2]?.getD undef = ptr h := by simpa using h2
  have k3 : tmps[3]?.getD undef = ptr (h + 1) := by simpa using h3
  have k4 : tmps[4]?.getD undef = ptr (h + 1 + 1) := by simpa using h4
  have d0 : w.cell? ⟨h, 0, none⟩ = some v0 := A0.cell 0
  have d1 : w.cell? ⟨h, 1, none⟩ = some v1 := A0.cell 1
  have c1 : w.cell? ⟨h + 1, 0, none⟩ = some (.int .i64 x) := A1.cell 0
  have c2 : w.cell? ⟨h + 1 + 1, 0, none⟩ = some (.int .i64 y) := A2.cell 0
  simp [results, Tryd.results10, k2, k3, k4, asAddr, go_sem, d0, d1, c1, c2]
theorem Blk.drew {w : World} {m : Nat} {cs : Array Value} {t : TypeId} (h : Blk w m cs t) : Blk w.drew m cs t := h.kept (grown_drew _) (by simp)
/-- the three results are set -/
theorem sets3 {W : World} {h : Nat} {v0 v1 v2 v3 : Value} (E0 : Blk W h #[v0, v1] 25) (E1 : Blk W (h + 1) #[v2] 3) (E2 : Blk W (h + 1 + 1) #[v3] 28) (u0 u1 u2 u3 : Value) :
    Blk ((((W.setCell ⟨h, 0, none⟩ u0).setCell ⟨h, 1, none⟩ u1).setCell ⟨h + 1, 0, none⟩ u2).setCell ⟨h + 1 + 1, 0, none⟩ u3) h #[u0, u1] 25 ∧
    Blk ((((W.setCell ⟨h, 0, none⟩ u0).setCell ⟨h, 1, none⟩ u1).setCell ⟨h + 1, 0, none⟩ u2).setCell ⟨h + 1 + 1, 0, none⟩ u3) (h + 1) #[u2] 3 ∧
    Blk ((((W.setCell ⟨h, 0, none⟩ u0).setCell ⟨h, 1, none⟩ u1).setCell ⟨h + 1, 0, none⟩ u2).setCell ⟨h + 1 + 1, 0, none⟩ u3) (h + 1 + 1) #[u3] 28 ∧
    Below h W ((((W.setCell ⟨h, 0, none⟩ u0).setCell ⟨h, 1, none⟩ u1).setCell ⟨h + 1, 0, none⟩ u2).setCell ⟨h + 1 + 1, 0, none⟩ u3) := by
  have B0 : Blk ((W.setCell ⟨h, 0, none⟩ u0).setCell ⟨h, 1, none⟩ u1) h #[u0, u1] 25 := Joins.block_setCell (i := 1) (Joins.block_setCell (i := 0) E0 u0) u1
  have B1 : Blk ((W.setCell ⟨h, 0, none⟩ u0).setCell ⟨h, 1, none⟩ u1) (h + 1) #[v2] 3 := (E1.kept (grown_set _ h 0 u0) (by simp)).kept (grown_set _ h 1 u1) (by simp)
  have B2 : Blk ((W.setCell ⟨h, 0, none⟩ u0).setCell ⟨h, 1, none⟩ u1) (h + 1 + 1) #[v3] 28 := (E2.kept (grown_set _ h 0 u0) (by simp; omega)).kept (grown_set _ h 1 u1) (by simp; omega)
  refine ⟨(B0.kept (grown_set _ (h + 1) 0 _) (by simp)).kept (grown_set _ (h + 1 + 1) 0 _) (by simp; omega), Blk.kept (cs := #[u2]) (Joins.block_setCell (i := 0) B1 u2) (grown_set _ (h + 1 + 1) 0 _) (by simp), Joins.block_setCell (i := 0) (B2.kept (grown_set _ (h + 1) 0 u2) (by simp)) u3, ⟨rfl, rfl, rfl, by simp, fun k hk => ?_⟩⟩
  rw [setCell_block _ _ _ _ (by simp; omega), setCell_block _ _ _ _ (by simp; omega), setCell_block _ _ _ _ (by simp; omega), setCell_block _ _ _ _ (by simp; omega)]
theorem scanF_len : ∀ f l a ts, scanF f l a = .ok ts → ts.length ≤ l.length
  | 0, _, _, _, h => by cases h; simp
  | f + 1, l, a, ts, h => by
    by_cases hk : skipN false l < l.length
    · rcases hr : readT (l.drop (skipN false l)) with e | t
      · rw [scanF_err _ _ _ hk hr] at h; cases h
      · rw [scanF_ok _ _ _ hk hr] at h
        rcases hq : scanF f ((l.drop (skipN false l)).drop t.len) (a + skipN false l + t.len) with e | us
        · rw [hq] at h; cases h
        · rw [hq] at h
          cases h
          have ih := scanF_len f _ _ _ hq
          have tl := readT_len hr
          simp only [List.length_drop, List.length_append, List.length_cons, List.length_nil] at *
          omega
    · rw [scanF_end _ _ _ hk] at h
      cases h
      simp
theorem scan_len {l : List UInt8} {ts : List Tok} (h : scanAll l = .ok ts) : ts.length ≤ 16384 := by
  unfold scanAll at h
  split at h
  · cases h
  · have := scanF_len _ _ _ _ h
    omega
theorem place_eq (s : ByteArray) (r : List Tok) : placeZ s.size r = ((placeT s.data.toList.length r : Nat) : Int) := by
  cases r
  · simp [placeZ, placeT]
  · simp [placeZ, placeT]
/-- what Parse answers -/
def ParsesTo (w : World) (r : Except (Nat × Int) Pg) (e : Ending) (w' : World) : Prop :=
  Below w.heap.size w w' ∧ match r with
    | .ok p => ∃ v, e = .returned (.tuple #[v, .int .i64 0, .int .i64 0]) ∧ isPV w' (new w w') p v
    | .error (a, c) => e = .returned (.tuple #[.agg #[nil3, nil3], .int .i64 a, .int .i64 c]) ∧ c ≠ 0
set_option maxRecDepth 100000 in
set_option maxHeartbeats 4000000 in
theorem parse_any (s : ByteArray) (w : World) (L : Laid w) : Calls Tryd.prog 10 #[.string s] w (ParsesTo w (parseT s.data.toList)) := by
  have hmf : ∀ (fn : Fn) (first cap : Array Value) (w : World), (Instr.makeFunc fn first cap).run Tryd.prog w = .ok (.func fn first cap) w := fun _ _ _ _ => rfl
  have hT0 : ¬ w.heap.size = w.heap.size + 1 := by omega
  have hT1 : ¬ w.heap.size + 1 = w.heap.size := by omega
  have hT2 : ¬ w.heap.size = w.heap.size + 1 + 1 := by omega
  have hT3 : ¬ w.heap.size + 1 + 1 = w.heap.size := by omega
  have hT4 : ¬ w.heap.size + 1 = w.heap.size + 1 + 1 := by omega
  have hT5 : ¬ w.heap.size + 1 + 1 = w.heap.size + 1 := by omega
  have SC := fun o o' o2 => scan_any s (((w.alloc o).alloc o').alloc o2) (((L.later (Joins.below_alloc1 w o)).later (Joins.below_alloc1 _ o')).later (Joins.below_alloc1 _ o2))
  rcases hS : scanAll s.data.toList with ⟨a, c⟩ | ts
  · rw [hS] at SC
    simp only [scanA, scanE, scanL] at SC
    rw [parse_scan_err hS]
    have hc : c ≠ 0 := errs_scan hS
    have hcb : (c == 0) = false := by simp [hc]
    have hcb' : (c != 0) = true := by simp [hc]
    have HC : Hid (c ≠ 0) := ⟨hc⟩
    clear hS hc
    go_enter_defers Tryd.func10, Tryd.ntmps10
    go_wp2_with (first
      | (go_at_call 20; refine (SC _ _ _).mono ?_; rintro e w1 ⟨v, rfl, RW, B1⟩; have D0 := (((Blk.fresh w #[nil3, nil3] 25).alloc (.cells #[.int .i64 0] 3)).alloc (.cells #[.int .i64 0] 28)).kept (row := none) ⟨B1.os, B1.tape, B1.output, B1.size, fun i hi _ => B1.block i hi⟩ (by simp); have D1 : Blk w1 (w.heap.size + 1) #[.int .i64 0] 3 := Blk.kept (show Blk (((w.alloc (.cells #[nil3, nil3] 25)).alloc (.cells #[.int .i64 0] 3)).alloc (.cells #[.int .i64 0] 28)) (w.heap.size + 1) #[.int .i64 0] 3 from (by have := (Blk.fresh (w.alloc (.cells #[nil3, nil3] 25)) #[.int .i64 0] 3).alloc (.cells #[.int .i64 0] 28); simpa using this)) (row := none) ⟨B1.os, B1.tape, B1.output, B1.size, fun i hi _ => B1.block i hi⟩ (by simp); have D2 : Blk w1 (w.heap.size + 1 + 1) #[.int .i64 0] 28 := Blk.kept (show Blk (((w.alloc (.cells #[nil3, nil3] 25)).alloc (.cells #[.int .i64 0] 3)).alloc (.cells #[.int .i64 0] 28)) (w.heap.size + 1 + 1) #[.int .i64 0] 28 from (by have := Blk.fresh ((w.alloc (.cells #[nil3, nil3] 25)).alloc (.cells #[.int .i64 0] 3)) #[.int .i64 0] 28; simpa using this)) (row := none) ⟨B1.os, B1.tape, B1.output, B1.size, fun i hi _ => B1.block i hi⟩ (by simp); have m0 : w1.cell? ⟨w.heap.size, 0, none⟩ = some nil3 := D0.cell 0; have m1 : w1.cell? ⟨w.heap.size, 1, none⟩ = some nil3 := D0.cell 1; have m2 : w1.cell? ⟨w.heap.size + 1, 0, none⟩ = some (.int .i64 0) := D1.cell 0; have m3 : w1.cell? ⟨w.heap.size + 1 + 1, 0, none⟩ = some (.int .i64 0) := D2.cell 0; have mz0 : ∀ j, w1.frozen? ⟨w.heap.size, j, none⟩ = false := D0.z; have mz1 : ∀ j, w1.frozen? ⟨w.heap.size + 1, j, none⟩ = false := D1.z; have mz2 : ∀ j, w1.frozen? ⟨w.heap.size + 1 + 1, j, none⟩ = false := D2.z))
    have E0 : Blk ((w1.setCell ⟨w.heap.size + 1, 0, none⟩ (.int .i64 a)).setCell ⟨w.heap.size + 1 + 1, 0, none⟩ (.int .i64 c)) w.heap.size #[nil3, nil3] 25 := (D0.kept (grown_set _ (w.heap.size + 1) 0 _) (by simp)).kept (grown_set _ (w.heap.size + 1 + 1) 0 _) (by simp; omega)
    have E1 : Blk ((w1.setCell ⟨w.heap.size + 1, 0, none⟩ (.int .i64 a)).setCell ⟨w.heap.size + 1 + 1, 0, none⟩ (.int .i64 c)) (w.heap.size + 1) #[.int .i64 a] 3 := Blk.kept (cs := #[.int .i64 a]) (Joins.block_setCell (i := 0) D1 (.int .i64 a)) (grown_set _ (w.heap.size + 1 + 1) 0 _) (by simp)
    have E2 : Blk ((w1.setCell ⟨w.heap.size + 1, 0, none⟩ (.int .i64 a)).setCell ⟨w.heap.size + 1 + 1, 0, none⟩ (.int .i64 c)) (w.heap.size + 1 + 1) #[.int .i64 c] 28 := Joins.block_setCell (i := 0) (D2.kept (grown_set _ (w.heap.size + 1) 0 (.int .i64 a)) (by simp)) (.int .i64 c)
    have BW : Below w.heap.size w ((w1.setCell ⟨w.heap.size + 1, 0, none⟩ (.int .i64 a)).setCell ⟨w.heap.size + 1 + 1, 0, none⟩ (.int .i64 c)) := by
      have g := B1.block
      have g' := B1.size
      simp only [World.size_alloc] at g g'
      refine ⟨B1.os, B1.tape, B1.output, by simp; omega, fun k hk => ?_⟩
      rw [setCell_block _ _ _ _ (by simp; omega), setCell_block _ _ _ _ (by simp; omega), g k (by omega)]
      exact (((Below.refl w.heap.size w).alloc (Nat.le_refl _) _).alloc (by simp) _ |>.alloc (by simp; omega) _).block k hk
    clear D0 D1 D2 m0 m1 m2 m3 mz0 mz1 mz2 B1 RW SC
    generalize ((w1.setCell ⟨w.heap.size + 1, 0, none⟩ (.int .i64 a)).setCell ⟨w.heap.size + 1 + 1, 0, none⟩ (.int .i64 c)) = W at *
    have m0 : W.cell? ⟨w.heap.size, 0, none⟩ = some nil3 := E0.cell 0
    have m1 : W.cell? ⟨w.heap.size, 1, none⟩ = some nil3 := E0.cell 1
    have m2 : W.cell? ⟨w.heap.size + 1, 0, none⟩ = some (.int .i64 a) := E1.cell 0
    have m3 : W.cell? ⟨w.heap.size + 1 + 1, 0, none⟩ = some (.int .i64 c) := E2.cell 0
    have mz0 : ∀ j, W.frozen? ⟨w.heap.size, j, none⟩ = false := E0.z
    have mz1 : ∀ j, W.frozen? ⟨w.heap.size + 1, j, none⟩ = false := E1.z
    have mz2 : ∀ j, W.frozen? ⟨w.heap.size + 1 + 1, j, none⟩ = false := E2.z
    go_region
    all_goals go_wp2
    have Q := sets3 (v0 := nil3) (v1 := nil3) E0 E1 E2 nil3 nil3 (.int .i64 a) (.int .i64 c)
    refine ⟨_, res10 rfl rfl rfl Q.1.drew Q.2.1.drew Q.2.2.1.drew, ?_⟩
    exact ⟨BW.trans (Joins.below_le Q.2.2.2 (Nat.le_refl _)) |>.drew, rfl, HC.out⟩
  · rw [hS] at SC
    simp only [scanA, scanE, scanL] at SC
    have GD := scan_good hS
    have HS : Hid (scanAll s.data.toList = .ok ts) := ⟨hS⟩
    clear hS
    go_enter_defers Tryd.func10, Tryd.ntmps10
    go_wp2_with (first
      | (go_at_call 20; refine (SC _ _ _).mono ?_; rintro e w1 ⟨v, rfl, RW, B1⟩; obtain ⟨ga, cap, rfl⟩ := own_form RW; have D0 := (((Blk.fresh w #[nil3, nil3] 25).alloc (.cells #[.int .i64 0] 3)).alloc (.cells #[.int .i64 0] 28)).kept (row := none) ⟨B1.os, B1.tape, B1.output, B1.size, fun i hi _ => B1.block i hi⟩ (by simp); have D1 : Blk w1 (w.heap.size + 1) #[.int .i64 0] 3 := Blk.kept (show Blk (((w.alloc (.cells #[nil3, nil3] 25)).alloc (.cells #[.int .i64 0] 3)).alloc (.cells #[.int .i64 0] 28)) (w.heap.size + 1) #[.int .i64 0] 3 from (by have := (Blk.fresh (w.alloc (.cells #[nil3, nil3] 25)) #[.int .i64 0] 3).alloc (.cells #[.int .i64 0] 28); simpa using this)) (row := none) ⟨B1.os, B1.tape, B1.output, B1.size, fun i hi _ => B1.block i hi⟩ (by simp); have D2 : Blk w1 (w.heap.size + 1 + 1) #[.int .i64 0] 28 := Blk.kept (show Blk (((w.alloc (.cells #[nil3, nil3] 25)).alloc (.cells #[.int .i64 0] 3)).alloc (.cells #[.int .i64 0] 28)) (w.heap.size + 1 + 1) #[.int .i64 0] 28 from (by have := Blk.fresh ((w.alloc (.cells #[nil3, nil3] 25)).alloc (.cells #[.int .i64 0] 3)) #[.int .i64 0] 28; simpa using this)) (row := none) ⟨B1.os, B1.tape, B1.output, B1.size, fun i hi _ => B1.block i hi⟩ (by simp); have m0 : w1.cell? ⟨w.heap.size, 0, none⟩ = some nil3 := D0.cell 0; have m1 : w1.cell? ⟨w.heap.size, 1, none⟩ = some nil3 := D0.cell 1; have m2 : w1.cell? ⟨w.heap.size + 1, 0, none⟩ = some (.int .i64 0) := D1.cell 0; have m3 : w1.cell? ⟨w.heap.size + 1 + 1, 0, none⟩ = some (.int .i64 0) := D2.cell 0; have mz0 : ∀ j, w1.frozen? ⟨w.heap.size, j, none⟩ = false := D0.z; have mz1 : ∀ j, w1.frozen? ⟨w.heap.size + 1, j, none⟩ = false := D1.z; have mz2 : ∀ j, w1.frozen? ⟨w.heap.size + 1 + 1, j, none⟩ = false := D2.z); have HRW : Hid (Row w1 _ _ ts) := ⟨RW⟩; clear RW)
    have W1s := B1.size
    have hb : w.heap.size + 1 + 1 < w1.heap.size := by simp only [World.size_alloc] at W1s; omega
    have E0 : Blk (((w1.setCell ⟨w.heap.size + 1, 0, none⟩ (.int .i64 0)).setCell ⟨w.heap.size + 1 + 1, 0, none⟩ (.int .i64 0)).alloc (.cells #[.slice ga ts.length cap, .int .i64 s.size, .int .i64 0] 61)) w.heap.size #[nil3, nil3] 25 := (((D0.kept (grown_set _ (w.heap.size + 1) 0 _) (by simp)).kept (grown_set _ (w.heap.size + 1 + 1) 0 _) (by simp; omega))).alloc _
    have E1 : Blk (((w1.setCell ⟨w.heap.size + 1, 0, none⟩ (.int .i64 0)).setCell ⟨w.heap.size + 1 + 1, 0, none⟩ (.int .i64 0)).alloc (.cells #[.slice ga ts.length cap, .int .i64 s.size, .int .i64 0] 61)) (w.heap.size + 1) #[.int .i64 0] 3 := (Blk.kept (cs := #[.int .i64 0]) (Joins.block_setCell (i := 0) D1 (.int .i64 0)) (grown_set _ (w.heap.size + 1 + 1) 0 _) (by simp)).alloc _
    have E2 : Blk (((w1.setCell ⟨w.heap.size + 1, 0, none⟩ (.int .i64 0)).setCell ⟨w.heap.size + 1 + 1, 0, none⟩ (.int .i64 0)).alloc (.cells #[.slice ga ts.length cap, .int .i64 s.size, .int .i64 0] 61)) (w.heap.size + 1 + 1) #[.int .i64 0] 28 := Blk.alloc (cs := #[.int .i64 0]) (Joins.block_setCell (i := 0) (D2.kept (grown_set _ (w.heap.size + 1) 0 (.int .i64 0)) (by simp)) (.int .i64 0)) _
    have BW : Below w.heap.size w (((w1.setCell ⟨w.heap.size + 1, 0, none⟩ (.int .i64 0)).setCell ⟨w.heap.size + 1 + 1, 0, none⟩ (.int .i64 0)).alloc (.cells #[.slice ga ts.length cap, .int .i64 s.size, .int .i64 0] 61)) := by
      have g := B1.block
      have g' := B1.size
      simp only [World.size_alloc] at g g'
      have BX : Below w.heap.size w ((w1.setCell ⟨w.heap.size + 1, 0, none⟩ (.int .i64 0)).setCell ⟨w.heap.size + 1 + 1, 0, none⟩ (.int .i64 0)) := by
        refine ⟨B1.os, B1.tape, B1.output, by simp; omega, fun k hk => ?_⟩
        rw [setCell_block _ _ _ _ (by simp; omega), setCell_block _ _ _ _ (by simp; omega), g k (by omega)]
        exact (((Below.refl w.heap.size w).alloc (Nat.le_refl _) _).alloc (by simp) _ |>.alloc (by simp; omega) _).block k hk
      exact BX.alloc BX.size _
    have E3 : Blk (((w1.setCell ⟨w.heap.size + 1, 0, none⟩ (.int .i64 0)).setCell ⟨w.heap.size + 1 + 1, 0, none⟩ (.int .i64 0)).alloc (.cells #[.slice ga ts.length cap, .int .i64 s.size, .int .i64 0] 61)) w1.heap.size #[.slice ga ts.length cap, .int .i64 s.size, .int .i64 0] 61 := by
      have := Blk.fresh ((w1.setCell ⟨w.heap.size + 1, 0, none⟩ (.int .i64 0)).setCell ⟨w.heap.size + 1 + 1, 0, none⟩ (.int .i64 0)) #[.slice ga ts.length cap, .int .i64 s.size, .int .i64 0] 61
      simpa using this
    have RB : Rd (((w1.setCell ⟨w.heap.size + 1, 0, none⟩ (.int .i64 0)).setCell ⟨w.heap.size + 1 + 1, 0, none⟩ (.int .i64 0)).alloc (.cells #[.slice ga ts.length cap, .int .i64 s.size, .int .i64 0] 61)) w1.heap.size ts s.size 0 := by
      have lenT := scan_len HS.out
      refine ⟨⟨ga, cap, E3.cell 0, ?_, ?_, fun hn => ?_⟩, E3.cell 1, E3.cell 2, E3.z, GD⟩
      · rcases HRW.out.2 with ⟨e, e'⟩ | ⟨g, cap', cur, e, _, _, hc, _⟩
        · simp only [Value.slice.injEq] at e; omega
        · simp only [Value.slice.injEq] at e; omega
      · rcases HRW.out.2 with ⟨e, e'⟩ | ⟨g, cap', cur, e, _, _, _, hc, _⟩
        · simp only [Value.slice.injEq] at e; omega
        · simp only [Value.slice.injEq] at e; unfold maxLen at hc; omega
      · obtain ⟨g, cp, e, hcs⟩ := own_some HRW.out hn
        cases e
        have hg := HRW.out.lt g rfl
        have hg1 := hg.1
        simp only [World.size_alloc] at hg1
        refine ⟨g, 0, rfl, hg.2, fun j u hj => ?_⟩
        have := hcs j u hj
        rw [show ((⟨g, 0, none⟩ : Addr).add j) = ⟨g, 0 + j, none⟩ by unfold Addr.add; split <;> simp_all] at this
        exact (grown_alloc _ _).cell ((grown_set _ (w.heap.size + 1 + 1) 0 _).cell ((grown_set _ (w.heap.size + 1) 0 _).cell this (fun e => by have e' : g = w.heap.size + 1 := Option.some.inj e; omega)) (fun e => by have e' : g = w.heap.size + 1 + 1 := Option.some.inj e; omega)) (fun e => by cases e)
    clear D0 D1 D2 m0 m1 m2 m3 mz0 mz1 mz2 B1 HRW SC E3 W1s GD
    generalize (((w1.setCell ⟨w.heap.size + 1, 0, none⟩ (.int .i64 0)).setCell ⟨w.heap.size + 1 + 1, 0, none⟩ (.int .i64 0)).alloc (.cells #[.slice ga ts.length cap, .int .i64 s.size, .int .i64 0] 61)) = W at *
    generalize w1.heap.size = b at *
    refine (program_any RB).mono ?_
    intro e w2 h2
    rcases h2.cases with ⟨p, r2, v2, hp2, rfl, F2, ⟨vd, vb, xb, rfl, ID, IB, IBS⟩, R2⟩ | ⟨c2, r2, hp2, rfl, F2, R2⟩
    · have E0 := E0.kept F2 (fun e => by cases e; omega)
      have E1 := E1.kept F2 (fun e => by cases e; omega)
      have E2 := E2.kept F2 (fun e => by cases e; omega)
      have m0 : w2.cell? ⟨w.heap.size, 0, none⟩ = some nil3 := E0.cell 0
      have m1 : w2.cell? ⟨w.heap.size, 1, none⟩ = some nil3 := E0.cell 1
      have m2 : w2.cell? ⟨w.heap.size + 1, 0, none⟩ = some (.int .i64 0) := E1.cell 0
      have m3 : w2.cell? ⟨w.heap.size + 1 + 1, 0, none⟩ = some (.int .i64 0) := E2.cell 0
      have mz0 : ∀ j, w2.frozen? ⟨w.heap.size, j, none⟩ = false := E0.z
      have mz1 : ∀ j, w2.frozen? ⟨w.heap.size + 1, j, none⟩ = false := E1.z
      have mz2 : ∀ j, w2.frozen? ⟨w.heap.size + 1 + 1, j, none⟩ = false := E2.z
      obtain ⟨gd, nd, cd, rfl⟩ := row_form ID
      obtain ⟨gb, nb, cb, rfl⟩ := row_form IB
      have HI : Hid (IsRow _ _ _ _ _) := ⟨ID⟩
      have HB : Hid (IsRow _ _ _ _ _) := ⟨IB⟩
      have HBS : Hid (isBs _ _ _ _) := ⟨IBS⟩
      have HF2 : Hid (Fr b W w2) := ⟨F2⟩
      have HP2 : Hid (_ = _) := ⟨hp2⟩
      clear ID IB IBS F2 hp2 h2
      go_wp2
      refine leaves_cons (f := 21) (args := #[ptr b, ptr w.heap.size, ptr (w.heap.size + 1), ptr (w.heap.size + 1 + 1)]) (by simp) (by simp [go_sem]) ?_
      refine (catch_idle _ _ _ _ _).mono ?_
      rintro e u' w'' ⟨rfl, rfl, rfl⟩
      have Q := sets3 (v0 := nil3) (v1 := nil3) E0 E1 E2 (.slice gd nd cd) (.slice gb nb cb) (.int .i64 0) (.int .i64 0)
      refine ⟨_, res10 rfl rfl rfl Q.1 Q.2.1 Q.2.2.1, ?_⟩
      rw [parse_isok HS.out HP2.out]
      have s2 := HF2.out.size
      have rb := RB.lt
      have K : Keeps (new W w2) (new w ((((w2.setCell ⟨w.heap.size, 0, none⟩ (.slice gd nd cd)).setCell ⟨w.heap.size, 1, none⟩ (.slice gb nb cb)).setCell ⟨w.heap.size + 1, 0, none⟩ (.int .i64 0)).setCell ⟨w.heap.size + 1 + 1, 0, none⟩ (.int .i64 0))) w2 ((((w2.setCell ⟨w.heap.size, 0, none⟩ (.slice gd nd cd)).setCell ⟨w.heap.size, 1, none⟩ (.slice gb nb cb)).setCell ⟨w.heap.size + 1, 0, none⟩ (.int .i64 0)).setCell ⟨w.heap.size + 1 + 1, 0, none⟩ (.int .i64 0)) :=
        ⟨fun g off u hg hc => by
          have h1 := hg.1
          rw [set_other (block_ne (by omega)), set_other (block_ne (by omega)), set_other (block_ne (by omega)), set_other (block_ne (by omega))]
          exact hc, fun g hg => ⟨by have := hg.1; have := BW.size; omega, by have := hg.2; simpa using this⟩⟩
      exact ⟨BW.trans (Joins.below_le (HF2.out.below (Nat.le_of_lt (by omega)) rb) (Nat.le_refl _)) |>.trans (Joins.below_le Q.2.2.2 (Nat.le_refl _)), _, rfl, _, _, xb, rfl, IsRow.keeps K HI.out, IsRow.keeps K HB.out, isBs_keeps K _ _ HBS.out⟩
    · have E0 := E0.kept F2 (fun e => by cases e; omega)
      have E1 := E1.kept F2 (fun e => by cases e; omega)
      have E2 := E2.kept F2 (fun e => by cases e; omega)
      have rb := RB.lt
      go_wp2
      refine leaves_cons (f := 21) (args := #[ptr b, ptr w.heap.size, ptr (w.heap.size + 1), ptr (w.heap.size + 1 + 1)]) (by simp) (by simp [go_sem]) ?_
      refine (catch_pan R2 E0 E1 E2 hb).mono ?_
      rintro e u' w'' ⟨rfl, rfl, BB, G0, G1, G2⟩
      refine ⟨_, res10 rfl rfl rfl G0 G1 G2, ?_⟩
      rw [parse_err HS.out hp2]
      refine ⟨BW.trans (Joins.below_le (F2.below (Nat.le_of_lt (by omega)) rb) (Nat.le_refl _)) |>.trans (Joins.below_le BB (Nat.le_refl _)), ?_, errs_prog _ _ _ hp2⟩
      rw [place_eq]

end Go.Proofs.YtoedeedoecdajaaDoor
