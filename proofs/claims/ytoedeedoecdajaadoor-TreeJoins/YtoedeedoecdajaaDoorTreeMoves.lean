/- Layer 6, made ready: the tree of tokens that have moved is the tree, moved: of no program. -/
import Derived.Test.YtoedeedoecdajaaDoorTree
namespace Go.Proofs.YtoedeedoecdajaaDoor

def reT (g : Nat → Nat) (t : Tok) : Tok := ⟨t.kind, t.text, t.num, g t.at'⟩
def gI (g : Nat → Nat) (z : Int) : Int := (g z.toNat : Nat)
mutual
def reE (g : Nat → Nat) : E → E
  | .mk k a n m at' bs ks as => .mk k (gI g a) n m at' (reBs g bs) (reEs g ks) (reAs g as)
def reB (g : Nat → Nat) : B → B
  | .mk n a as x => .mk n (gI g a) as (reE g x)
def reA (g : Nat → Nat) : A → A
  | .mk k a n m vs x => .mk k (gI g a) n m vs (reE g x)
def reEs (g : Nat → Nat) : List E → List E
  | [] => []
  | x :: r => reE g x :: reEs g r
def reBs (g : Nat → Nat) : List B → List B
  | [] => []
  | x :: r => reB g x :: reBs g r
def reAs (g : Nat → Nat) : List A → List A
  | [] => []
  | x :: r => reA g x :: reAs g r
end
theorem reEs_map (g : Nat → Nat) : ∀ l, reEs g l = l.map (reE g)
  | [] => by simp [reEs]
  | x :: r => by simp [reEs, reEs_map g r]
theorem reBs_map (g : Nat → Nat) : ∀ l, reBs g l = l.map (reB g)
  | [] => by simp [reBs]
  | x :: r => by simp [reBs, reBs_map g r]
theorem reAs_map (g : Nat → Nat) : ∀ l, reAs g l = l.map (reA g)
  | [] => by simp [reAs]
  | x :: r => by simp [reAs, reAs_map g r]
def reD (g : Nat → Nat) (d : D) : D := ⟨d.name, d.arity, gI g d.at'⟩
def rePg (g : Nat → Nat) (p : Pg) : Pg := ⟨p.datas.map (reD g), p.binds.map (reB g)⟩

def moved {α β : Type} (g : Nat → Nat) (φ : α → β) (p : PR α) : PR β :=
  match p with
  | .ok (a, r) => .ok (φ a, r.map (reT g))
  | .error (e, r) => .error (e, r.map (reT g))
theorem moved_and {α α' β β' : Type} {g : Nat → Nat} {φ : α → α'} {ψ : β → β'} (p : PR α) {f : α → List Tok → PR β} {f' : α' → List Tok → PR β'}
    (h : ∀ a r, f' (φ a) (r.map (reT g)) = moved g ψ (f a r)) : andT (moved g φ p) f' = moved g ψ (andT p f) := by
  rcases p with ⟨e, r⟩ | ⟨a, r⟩
  · rfl
  · exact h a r
theorem kind_moved (g : Nat → Nat) (k : Int) (l : List Tok) : pKind k (l.map (reT g)) = moved g (reT g) (pKind k l) := by
  cases l with
  | nil => rfl
  | cons t r => simp only [List.map_cons, pKind, reT]; split <;> rfl
theorem isS_moved (g : Nat → Nat) (s : List UInt8) (l : List Tok) : isS s (l.map (reT g)) = isS s l := by
  cases l <;> rfl
theorem want_moved (g : Nat → Nat) (s : List UInt8) (l : List Tok) : pWant s (l.map (reT g)) = moved g id (pWant s l) := by
  unfold pWant
  rw [isS_moved]
  split
  · cases l <;> rfl
  · rfl
theorem names_moved (g : Nat → Nat) : ∀ l : List Tok, pNames (l.map (reT g)) = ((pNames l).1, (pNames l).2.map (reT g))
  | [] => rfl
  | t :: r => by
    simp only [List.map_cons, pNames, names_moved g r, reT]
    split <;> rfl
theorem atoms_moved (g : Nat → Nat) : ∀ l : List Tok, pAtoms (l.map (reT g)) = ((pAtoms l).1, (pAtoms l).2.map (reT g))
  | [] => rfl
  | t :: r => by
    simp only [List.map_cons, pAtoms, atoms_moved g r, reT]
    split <;> rfl
theorem args_moved (g : Nat → Nat) (l : List Tok) : pArgs (l.map (reT g)) = moved g id (pArgs l) := by
  unfold pArgs
  rw [isS_moved]
  split
  · rw [← List.map_tail, kind_moved]
    refine moved_and _ fun t r => ?_
    rw [names_moved, want_moved]
    exact moved_and _ fun _ r2 => rfl
  · rfl
theorem bind_moved (g : Nat → Nat) {ex : List Tok → PR E} (he : ∀ l, ex (l.map (reT g)) = moved g (reE g) (ex l)) (l : List Tok) : pBind ex (l.map (reT g)) = moved g (reB g) (pBind ex l) := by
  unfold pBind
  rw [kind_moved]
  refine moved_and _ fun t r => ?_
  rw [want_moved]
  refine moved_and _ fun _ r => ?_
  rw [args_moved]
  refine moved_and _ fun as r => ?_
  rw [he]
  refine moved_and _ fun x r => ?_
  rw [want_moved]
  refine moved_and _ fun _ r => ?_
  simp [moved, reB, reT, gI]
theorem head_moved (g : Nat → Nat) (l : List Tok) : pHead (l.map (reT g)) = moved g (fun h => (h.1, gI g h.2.1, h.2.2)) (pHead l) := by
  cases l with
  | nil => rfl
  | cons t r =>
    simp only [List.map_cons, pHead, reT, names_moved]
    split
    · rfl
    · split
      · rfl
      · split <;> rfl
theorem alt_moved (g : Nat → Nat) {ex : List Tok → PR E} (he : ∀ l, ex (l.map (reT g)) = moved g (reE g) (ex l)) (l : List Tok) : pAlt ex (l.map (reT g)) = moved g (reA g) (pAlt ex l) := by
  unfold pAlt
  rw [head_moved]
  refine moved_and _ fun t r => ?_
  rw [want_moved]
  refine moved_and _ fun _ r => ?_
  rw [he]
  refine moved_and _ fun x r => ?_
  rw [want_moved]
  refine moved_and _ fun _ r => ?_
  simp [moved, reA]
theorem manyF_moved {α : Type} (g : Nat → Nat) {φ : α → α} {one : List Tok → PR α} (ho : ∀ l, one (l.map (reT g)) = moved g φ (one l)) : ∀ n l, manyF one n (l.map (reT g)) = moved g (List.map φ) (manyF one n l)
  | 0, l => rfl
  | n + 1, l => by
    unfold manyF
    rw [ho]
    refine moved_and _ fun x r => ?_
    rw [isS_moved]
    split
    · cases r <;> rfl
    · rw [manyF_moved g ho n]
      exact moved_and _ fun xs r => rfl
theorem many_moved {α : Type} (g : Nat → Nat) {φ : α → α} {one : List Tok → PR α} (ho : ∀ l, one (l.map (reT g)) = moved g φ (one l)) (l : List Tok) : many one (l.map (reT g)) = moved g (List.map φ) (many one l) := by
  unfold many
  rw [List.length_map]
  exact manyF_moved g ho _ l
theorem exp_moved (g : Nat → Nat) : ∀ d l, pExp d (l.map (reT g)) = moved g (reE g) (pExp d l)
  | 0, l => by cases l <;> rfl
  | d + 1, [] => rfl
  | d + 1, t :: r => by
    have ih := exp_moved g d
    have S := fun s => isS_moved g s (t :: r)
    simp only [List.map_cons] at S
    simp only [List.map_cons, pExp, S, atoms_moved]
    rw [show (reT g t).kind = t.kind from rfl]
    split
    · simp [moved, reE, reBs, reEs, reAs, reT, gI]
    · split
      · simp [moved, reE, reBs, reEs, reAs, reT, gI]
      · split
        · rw [want_moved]
          refine moved_and _ fun _ r => ?_
          rw [many_moved g (bind_moved g ih)]
          refine moved_and _ fun bs r => ?_
          rw [want_moved]
          refine moved_and _ fun _ r => ?_
          rw [ih]
          refine moved_and _ fun x r => ?_
          simp [moved, reE, reBs_map, reEs, reAs, reT, gI]
        · split
          · rw [ih]
            refine moved_and _ fun x r => ?_
            rw [want_moved]
            refine moved_and _ fun _ r => ?_
            rw [want_moved]
            refine moved_and _ fun _ r => ?_
            rw [many_moved g (alt_moved g ih)]
            refine moved_and _ fun as r => ?_
            simp [moved, reE, reBs, reEs, reAs_map, reT, gI]
          · split
            · rw [ih]
              refine moved_and _ fun x r => ?_
              rw [want_moved]
              exact moved_and _ fun _ r => rfl
            · rfl
theorem data_moved (g : Nat → Nat) (l : List Tok) : pData (l.map (reT g)) = moved g (reD g) (pData l) := by
  unfold pData
  rw [kind_moved]
  refine moved_and _ fun c r => ?_
  rw [kind_moved]
  refine moved_and _ fun n r => ?_
  rw [want_moved]
  refine moved_and _ fun _ r => ?_
  simp [moved, reD, reT, gI]
theorem datas_moved (g : Nat → Nat) : ∀ n l, pDatas n (l.map (reT g)) = moved g (List.map (reD g)) (pDatas n l)
  | 0, l => rfl
  | n + 1, l => by
    unfold pDatas
    rw [isS_moved]
    split
    · rw [← List.map_tail, data_moved]
      refine moved_and _ fun d r => ?_
      rw [datas_moved g n]
      exact moved_and _ fun ds r => rfl
    · rfl
theorem binds_moved (g : Nat → Nat) : ∀ n l, pBinds n (l.map (reT g)) = moved g (List.map (reB g)) (pBinds n l)
  | 0, l => by cases l <;> rfl
  | n + 1, [] => rfl
  | n + 1, t :: r => by
    have := bind_moved g (exp_moved g 60) (t :: r)
    simp only [List.map_cons] at this
    simp only [List.map_cons, pBinds]
    rw [this]
    refine moved_and _ fun b r => ?_
    rw [binds_moved g n]
    exact moved_and _ fun bs r => rfl
theorem prog_moved (g : Nat → Nat) (l : List Tok) : pProg (l.map (reT g)) = moved g (rePg g) (pProg l) := by
  unfold pProg
  rw [List.length_map, datas_moved]
  refine moved_and _ fun ds r => ?_
  rw [List.length_map, binds_moved]
  exact moved_and _ fun bs r => rfl

/-- Two lists of tokens that are the same but for their places are both one list, moved. -/
def idx : Nat → List Tok → List Tok
  | _, [] => []
  | n, t :: r => ⟨t.kind, t.text, t.num, n⟩ :: idx (n + 1) r
theorem idx_moved : ∀ (l : List Tok) (n : Nat), (idx n l).map (reT fun i => ((l[i - n]?).map (·.at')).getD 0) = l
  | [], n => rfl
  | t :: r, n => by
    simp only [idx, List.map_cons, reT, Nat.sub_self, List.getElem?_cons_zero, Option.map_some, Option.getD_some]
    have ih := idx_moved r (n + 1)
    conv => rhs; rw [← ih]
    congr 1
    have lo : ∀ (l : List Tok) (m : Nat), ∀ t ∈ idx m l, m ≤ t.at' := by
      intro l
      induction l with
      | nil => intro m t h; cases h
      | cons u q ih => intro m t h; simp only [idx, List.mem_cons] at h; rcases h with rfl | h; exact Nat.le_refl _; exact Nat.le_of_succ_le (ih _ _ h)
    refine List.map_congr_left fun u hu => ?_
    have := lo _ _ _ hu
    simp only [reT]
    rw [show u.at' - n = (u.at' - (n + 1)) + 1 by omega]
    rfl
theorem idx_three : ∀ (l m : List Tok) (n : Nat), l.map (fun t => (t.kind, t.text, t.num)) = m.map (fun t => (t.kind, t.text, t.num)) → idx n l = idx n m
  | [], [], _, _ => rfl
  | [], _ :: _, _, h => by cases h
  | _ :: _, [], _, h => by cases h
  | t :: r, u :: q, n, h => by
    simp only [List.map_cons, List.cons.injEq, Prod.mk.injEq] at h
    obtain ⟨⟨a, b, c⟩, h⟩ := h
    simp only [idx, a, b, c, idx_three r q (n + 1) h]

end Go.Proofs.YtoedeedoecdajaaDoor
