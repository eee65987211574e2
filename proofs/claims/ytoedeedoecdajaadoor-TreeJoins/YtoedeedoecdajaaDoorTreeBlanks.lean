/- Layer 6, made ready: where a fault is, of tokens that have moved: of no program. -/
import Derived.Test.YtoedeedoecdajaaDoorTreeSame
namespace Go.Proofs.YtoedeedoecdajaaDoor

/-- what is left, well or with a fault, is an end of what there was -/
def restT {α : Type} : PR α → List Tok
  | .ok (_, r) => r
  | .error (_, r) => r
def Sfx {α : Type} (p : List Tok → PR α) : Prop := ∀ l, restT (p l) <:+ l
theorem sfx_and {α β : Type} {l : List Tok} {p : PR α} {f : α → List Tok → PR β} (hp : restT p <:+ l) (hf : ∀ a, Sfx (f a)) : restT (andT p f) <:+ l := by
  rcases p with ⟨e, r⟩ | ⟨a, r⟩
  · exact hp
  · exact (hf a r).trans hp
theorem sfx_ok {α β : Type} (a : α → List Tok → β) (x : α) : Sfx (fun l => (.ok (a x l, l) : PR β)) := fun l => List.suffix_refl l
theorem kind_sfx (k : Int) : Sfx (pKind k) := fun l => by
  cases l with
  | nil => exact List.suffix_refl _
  | cons t r =>
    simp only [pKind]
    split
    · exact List.suffix_cons t r
    · exact List.suffix_refl _
theorem want_sfx (s : List UInt8) : Sfx (pWant s) := fun l => by
  unfold pWant
  split
  · exact List.tail_suffix l
  · exact List.suffix_refl _
theorem names_sfx : ∀ l, (pNames l).2 <:+ l
  | [] => List.suffix_refl _
  | t :: r => by
    unfold pNames
    split
    · exact (names_sfx r).trans (List.suffix_cons t r)
    · exact List.suffix_refl _
theorem atoms_sfx : ∀ l, (pAtoms l).2 <:+ l
  | [] => List.suffix_refl _
  | t :: r => by
    unfold pAtoms
    split
    · exact (atoms_sfx r).trans (List.suffix_cons t r)
    · exact List.suffix_refl _
theorem args_sfx : Sfx pArgs := fun l => by
  unfold pArgs
  split
  · refine sfx_and ((kind_sfx 1 _).trans (List.tail_suffix l)) fun t r => ?_
    exact sfx_and ((want_sfx _ _).trans (names_sfx r)) fun _ r => List.suffix_refl _
  · exact List.suffix_refl _
theorem bind_sfx {ex : List Tok → PR E} (he : Sfx ex) : Sfx (pBind ex) := fun l => by
  unfold pBind
  refine sfx_and (kind_sfx 1 l) fun t r => ?_
  refine sfx_and (want_sfx _ r) fun _ r => ?_
  refine sfx_and (args_sfx r) fun as r => ?_
  refine sfx_and (he r) fun x r => ?_
  exact sfx_and (want_sfx _ r) fun _ r => List.suffix_refl _
theorem head_sfx : Sfx pHead := fun l => by
  cases l with
  | nil => exact List.suffix_refl _
  | cons t r =>
    simp only [pHead]
    split
    · exact (names_sfx r).trans (List.suffix_cons t r)
    · split
      · exact List.suffix_cons t r
      · split
        · exact List.suffix_cons t r
        · exact List.suffix_refl _
theorem alt_sfx {ex : List Tok → PR E} (he : Sfx ex) : Sfx (pAlt ex) := fun l => by
  unfold pAlt
  refine sfx_and (head_sfx l) fun t r => ?_
  refine sfx_and (want_sfx _ r) fun _ r => ?_
  refine sfx_and (he r) fun x r => ?_
  exact sfx_and (want_sfx _ r) fun _ r => List.suffix_refl _
theorem manyF_sfx {α : Type} {one : List Tok → PR α} (ho : Sfx one) : ∀ n, Sfx (manyF one n)
  | 0 => fun l => List.suffix_refl _
  | n + 1 => fun l => by
    unfold manyF
    refine sfx_and (ho l) fun x r => ?_
    split
    · exact List.tail_suffix r
    · exact sfx_and (manyF_sfx ho n r) fun xs r => List.suffix_refl _
theorem exp_sfx : ∀ d, Sfx (pExp d)
  | 0 => fun l => by cases l <;> exact List.suffix_refl _
  | d + 1 => fun l => by
    have ih := exp_sfx d
    cases l with
    | nil => exact List.suffix_refl _
    | cons t r =>
      simp only [pExp]
      split
      · exact List.suffix_cons t r
      · split
        · exact (atoms_sfx r).trans (List.suffix_cons t r)
        · split
          · refine sfx_and ((want_sfx _ r).trans (List.suffix_cons t r)) fun _ r => ?_
            refine sfx_and (manyF_sfx (bind_sfx ih) _ r) fun bs r => ?_
            refine sfx_and (want_sfx _ r) fun _ r => ?_
            exact sfx_and (ih r) fun x r => List.suffix_refl _
          · split
            · refine sfx_and ((ih r).trans (List.suffix_cons t r)) fun x r => ?_
              refine sfx_and (want_sfx _ r) fun _ r => ?_
              refine sfx_and (want_sfx _ r) fun _ r => ?_
              exact sfx_and (manyF_sfx (alt_sfx ih) _ r) fun as r => List.suffix_refl _
            · split
              · refine sfx_and ((ih r).trans (List.suffix_cons t r)) fun x r => ?_
                exact sfx_and (want_sfx _ r) fun _ r => List.suffix_refl _
              · exact List.suffix_refl _
theorem data_sfx : Sfx pData := fun l => by
  unfold pData
  refine sfx_and (kind_sfx _ l) fun c r => ?_
  refine sfx_and (kind_sfx _ r) fun n r => ?_
  exact sfx_and (want_sfx _ r) fun _ r => List.suffix_refl _
theorem datas_sfx : ∀ n, Sfx (pDatas n)
  | 0 => fun l => List.suffix_refl _
  | n + 1 => fun l => by
    unfold pDatas
    split
    · refine sfx_and ((data_sfx _).trans (List.tail_suffix l)) fun d r => ?_
      exact sfx_and (datas_sfx n r) fun ds r => List.suffix_refl _
    · exact List.suffix_refl _
theorem binds_sfx : ∀ n, Sfx (pBinds n)
  | 0 => fun l => by cases l <;> exact List.suffix_refl _
  | n + 1 => fun l => by
    cases l with
    | nil => exact List.suffix_refl _
    | cons t r =>
      simp only [pBinds]
      refine sfx_and (bind_sfx (exp_sfx 60) _) fun d r => ?_
      exact sfx_and (binds_sfx n r) fun ds r => List.suffix_refl _
theorem prog_sfx : Sfx pProg := fun l => by
  unfold pProg
  refine sfx_and (datas_sfx _ l) fun ds r => ?_
  exact sfx_and (binds_sfx _ r) fun bs r => List.suffix_refl _

def kindsT (l : List Tok) : List (Int × List UInt8 × Int) := l.map fun t => (t.kind, t.text, t.num)
/-- Tokens that are the same but for their places: the same tree but for the places, or the same fault at the same token. -/
theorem prog_blanks {l m : List Tok} (h : kindsT l = kindsT m) :
    (∃ p q r s, pProg l = .ok (p, r) ∧ pProg m = .ok (q, s) ∧ sameP p q = true) ∨
    ∃ e n, n ≤ l.length ∧ pProg l = .error (e, l.drop n) ∧ pProg m = .error (e, m.drop n) := by
  have hl := idx_moved l 0
  have hm := idx_moved m 0
  have hi : idx 0 l = idx 0 m := idx_three l m 0 h
  have Pl := prog_moved (fun i => ((l[i - 0]?).map (·.at')).getD 0) (idx 0 l)
  have Pm := prog_moved (fun i => ((m[i - 0]?).map (·.at')).getD 0) (idx 0 m)
  rw [hl] at Pl
  rw [hm, ← hi] at Pm
  have S := prog_sfx (idx 0 l)
  rcases e : pProg (idx 0 l) with ⟨er, r⟩ | ⟨p, r⟩
  · rw [e] at Pl Pm S
    refine .inr ⟨er, (idx 0 l).length - r.length, ?_, ?_, ?_⟩
    · have : (idx 0 l).length = l.length := by conv => rhs; rw [← hl]
                                               rw [List.length_map]
      omega
    · rw [Pl]
      have := List.suffix_iff_eq_drop.mp S
      simp only [restT] at this
      simp only [moved]
      congr 2
      conv => lhs; rw [this]
      conv => rhs; rw [← hl]
      rw [List.map_drop, hl]
    · rw [Pm]
      have := List.suffix_iff_eq_drop.mp S
      simp only [restT] at this
      simp only [moved]
      congr 2
      conv => lhs; rw [this]
      rw [List.map_drop, hi, hm]
  · rw [e] at Pl Pm
    exact .inl ⟨_, _, _, _, Pl, Pm, sameP_moved _ _ p⟩

end Go.Proofs.YtoedeedoecdajaaDoor
