/- Layer 6: which faults there are: none of them is 0. Of no program. -/
import Derived.Test.YtoedeedoecdajaaDoorTreeGood
import Derived.Test.YtoedeedoecdajaaDoorJust
namespace Go.Proofs.YtoedeedoecdajaaDoor
set_option linter.unusedVariables false

def Errs {α : Type} (p : PR α) : Prop := ∀ e r, p = .error (e, r) → e ≠ 0
theorem Errs.ok {α : Type} (x : α × List Tok) : Errs (α := α) (.ok x) := fun _ _ h => by cases h
theorem Errs.and {α β : Type} {p : PR α} {f : α → List Tok → PR β} (h : Errs p) (k : ∀ a r, Errs (f a r)) : Errs (andT p f) := fun e r he => by
  rcases p with ⟨e', r'⟩ | ⟨a, r'⟩
  · simp only [andT] at he
    cases he
    exact h _ _ rfl
  · exact k a r' e r he
theorem errs_kind (k : Int) (l : List Tok) : Errs (pKind k l) := fun e r h => by
  cases l with
  | nil => cases h; decide
  | cons t q =>
    simp only [pKind] at h
    split at h
    · cases h
    · cases h; decide
theorem errs_want (s : List UInt8) (l : List Tok) : Errs (pWant s l) := fun e r h => by
  unfold pWant at h
  split at h
  · cases h
  · cases h; decide
theorem errs_args (l : List Tok) : Errs (pArgs l) := by
  unfold pArgs
  split
  · exact (errs_kind _ _).and fun _ _ => (errs_want _ _).and fun _ _ => Errs.ok _
  · exact Errs.ok _
theorem errs_bind {ex : List Tok → PR E} (he : ∀ l, Errs (ex l)) (l : List Tok) : Errs (pBind ex l) :=
  (errs_kind _ _).and fun _ _ => (errs_want _ _).and fun _ _ => (errs_args _).and fun _ _ => (he _).and fun _ _ => (errs_want _ _).and fun _ _ => Errs.ok _
theorem errs_head (l : List Tok) : Errs (pHead l) := fun e r h => by
  cases l with
  | nil => cases h; decide
  | cons t q =>
    simp only [pHead] at h
    repeat' split at h
    all_goals first | (cases h; done) | (cases h; decide)
theorem errs_alt {ex : List Tok → PR E} (he : ∀ l, Errs (ex l)) (l : List Tok) : Errs (pAlt ex l) :=
  (errs_head _).and fun _ _ => (errs_want _ _).and fun _ _ => (he _).and fun _ _ => (errs_want _ _).and fun _ _ => Errs.ok _
theorem errs_manyF {α : Type} {one : List Tok → PR α} (h : ∀ l, Errs (one l)) : ∀ n l, Errs (manyF one n l)
  | 0, l => fun e r he => by cases he; decide
  | n + 1, l => by
    unfold manyF
    refine (h l).and fun x r => ?_
    split
    · exact Errs.ok _
    · exact (errs_manyF h n r).and fun _ _ => Errs.ok _
theorem errs_exp : ∀ d l, Errs (pExp d l)
  | 0, [] => fun e r he => by cases he; decide
  | 0, t :: q => fun e r he => by cases he; decide
  | d + 1, [] => fun e r he => by cases he; decide
  | d + 1, t :: q => by
    have ih := errs_exp d
    unfold pExp
    repeat' split
    · exact Errs.ok _
    · exact Errs.ok _
    · exact (errs_want _ _).and fun _ _ => (errs_manyF (errs_bind ih) _ _).and fun _ _ => (errs_want _ _).and fun _ _ => (ih _).and fun _ _ => Errs.ok _
    · exact (ih _).and fun _ _ => (errs_want _ _).and fun _ _ => (errs_want _ _).and fun _ _ => (errs_manyF (errs_alt ih) _ _).and fun _ _ => Errs.ok _
    · exact (ih _).and fun _ _ => (errs_want _ _).and fun _ _ => Errs.ok _
    · exact fun e r he => by cases he; decide
theorem errs_data (l : List Tok) : Errs (pData l) := (errs_kind _ _).and fun _ _ => (errs_kind _ _).and fun _ _ => (errs_want _ _).and fun _ _ => Errs.ok _
theorem errs_datas : ∀ n l, Errs (pDatas n l)
  | 0, l => Errs.ok _
  | n + 1, l => by
    unfold pDatas
    split
    · exact (errs_data _).and fun _ _ => (errs_datas n _).and fun _ _ => Errs.ok _
    · exact Errs.ok _
theorem errs_binds : ∀ n l, Errs (pBinds n l)
  | 0, l => Errs.ok _
  | n + 1, [] => Errs.ok _
  | n + 1, t :: q => (errs_bind (errs_exp 60) _).and fun _ _ => (errs_binds n _).and fun _ _ => Errs.ok _
theorem errs_prog (l : List Tok) : Errs (pProg l) := (errs_datas _ _).and fun _ _ => (errs_binds _ _).and fun _ _ => Errs.ok _
theorem errs_scanF : ∀ f l a e, scanF f l a = .error e → e.2 ≠ 0
  | 0, _, _, _, h => by cases h
  | f + 1, l, a, e, h => by
    by_cases hk : skipN false l < l.length
    · rcases hr : readT (l.drop (skipN false l)) with e' | t
      · rw [scanF_err _ _ _ hk hr] at h
        cases h
        have := readT_err hr
        simp only
        omega
      · rw [scanF_ok _ _ _ hk hr] at h
        rcases hq : scanF f ((l.drop (skipN false l)).drop t.len) (a + skipN false l + t.len) with e' | us
        · rw [hq] at h
          cases h
          exact errs_scanF f _ _ _ hq
        · rw [hq] at h
          cases h
    · rw [scanF_end _ _ _ hk] at h
      cases h
theorem errs_scan {l : List UInt8} {a : Nat} {c : Int} (h : scanAll l = .error (a, c)) : c ≠ 0 := by
  unfold scanAll at h
  split at h
  · cases h; decide
  · exact errs_scanF _ _ _ _ h
theorem parse_scan_err {l : List UInt8} {e} (h : scanAll l = .error e) : parseT l = .error e := by unfold parseT; rw [h]
theorem parse_isok {l : List UInt8} {ts r : List Tok} {p : Pg} (h : scanAll l = .ok ts) (k : pProg ts = .ok (p, r)) : parseT l = .ok p := by unfold parseT; rw [h]; simp only [k]
theorem parse_err {l : List UInt8} {ts r : List Tok} {c : Int} (h : scanAll l = .ok ts) (k : pProg ts = .error (c, r)) : parseT l = .error (placeT l.length r, c) := by unfold parseT; rw [h]; simp only [k]

end Go.Proofs.YtoedeedoecdajaaDoor
