/- Layer 6, made ready: the tree of tokens that have moved is the tree, moved: of no program. -/
import Derived.Test.YtofgnpehlheeiaaGreatDoorTree
import Derived.Test.YtofgnpehlheeiaaGreatDoorFroms
namespace Go.Proofs.YtofgnpehlheeiaaGreatDoor

def reT (g : Nat → Nat) (t : Tok) : Tok := ⟨t.kind, t.text, t.num, g t.at'⟩
def gI (g : Nat → Nat) (z : Int) : Int := (g z.toNat : Nat)
mutual
def reE (g : Nat → Nat) : E → E
  | .mk k a n m at' bs ks as => .mk k (gI g a) n m at' (reBs g bs) (reEs g ks) (reAs g as)
def reB (g : Nat → Nat) : B → B
  | .mk n a as x => .mk n (gI g a) as (reE g x)
def reA (g : Nat → Nat) : A → A
  | .mk k a n m vs x => .mk k (gI g a) n m vs (reE g x)
def reEs (g : Nat → Nat) : List E → List E
  | [] => []
  | x :: r => reE g x :: reEs g r
def reBs (g : Nat → Nat) : List B → List B
  | [] => []
  | x :: r => reB g x :: reBs g r
def reAs (g : Nat → Nat) : List A → List A
  | [] => []
  | x :: r => reA g x :: reAs g r
end
theorem reEs_map (g : Nat → Nat) : ∀ l, reEs g l = l.map (reE g)
  | [] => by simp [reEs]
  | x :: r => by simp [reEs, reEs_map g r]
theorem reBs_map (g : Nat → Nat) : ∀ l, reBs g l = l.map (reB g)
  | [] => by simp [reBs]
  | x :: r => by simp [reBs, reBs_map g r]
theorem reAs_map (g : Nat → Nat) : ∀ l, reAs g l = l.map (reA g)
  | [] => by simp [reAs]
  | x :: r => by simp [reAs, reAs_map g r]
def reD (g : Nat → Nat) (d : D) : D := ⟨d.name, d.arity, gI g d.at'⟩
def rePg (g : Nat → Nat) (p : Pg) : Pg := ⟨p.datas.map (reD g), p.binds.map (reB g)⟩

def moved {α β : Type} (g : Nat → Nat) (φ : α → β) (p : PR α) : PR β :=
  match p with
  | .ok (a, r) => .ok (φ a, r.map (reT g))
  | .error (e, r) => .error (e, r.map (reT g))
theorem moved_and {α α' β β' : Type} {g : Nat → Nat} {φ : α → α'} {ψ : β → β'} (p : PR α) {f : α → List Tok → PR β} {f' : α' → List Tok → PR β'}
    (h : ∀ a r, f' (φ a) (r.map (reT g)) = moved g ψ (f a r)) : andT (moved g φ p) f' = moved g ψ (andT p f) := by
  rcases p with ⟨e, r⟩ | ⟨a, r⟩
  · rfl
  · exact h a r
theorem kind_moved (g : Nat → Nat) (k : Int) (l : List Tok) : pKind k (l.map (reT g)) = moved g (reT g) (pKind k l) := by
  cases l with
  | nil => rfl
  | cons t r => simp only [List.map_cons, pKind, reT]; split <;> rfl
theorem isS_moved (g : Nat → Nat) (s : List UInt8) (l : List Tok) : isS s (l.map (reT g)) = isS s l := by
  cases l <;> rfl
theorem want_moved (g : Nat → Nat) (s : List UInt8) (l : List Tok) : pWant s (l.map (reT g)) = moved g id (pWant s l) := by
  unfold pWant
  rw [isS_moved]
  split
  · cases l <;> rfl
  · rfl
theorem names_moved (g : Nat → Nat) : ∀ l : List Tok, pNames (l.map (reT g)) = ((pNames l).1, (pNames l).2.map (reT g))
  | [] => rfl
  | t :: r => by
    simp only [List.map_cons, pNames, names_moved g r, reT]
    split <;> rfl
theorem atoms_moved (g : Nat → Nat) : ∀ l : List Tok, pAtoms (l.map (reT g)) = ((pAtoms l).1, (pAtoms l).2.map (reT g))
  | [] => rfl
  | t :: r => by
    simp only [List.map_cons, pAtoms, atoms_moved g r, reT]
    split <;> rfl
theorem args_moved (g : Nat → Nat) (l : List Tok) : pArgs (l.map (reT g)) = moved g id (pArgs l) := by
  unfold pArgs
  rw [isS_moved]
  split
  · rw [← List.map_tail, kind_moved]
    refine moved_and _ fun t r => ?_
    rw [names_moved, want_moved]
    exact moved_and _ fun _ r2 => rfl
  · rfl
theorem bind_moved (g : Nat → Nat) {ex : List Tok → PR E} (he : ∀ l, ex (l.map (reT g)) = moved g (reE g) (ex l)) (l : List Tok) : pBind ex (l.map (reT g)) = moved g (reB g) (pBind ex l) := by
  unfold pBind
  rw [kind_moved]
  refine moved_and _ fun t r => ?_
  rw [want_moved]
  refine moved_and _ fun _ r => ?_
  rw [args_moved]
  refine moved_and _ fun as r => ?_
  rw [he]
  refine moved_and _ fun x r => ?_
  rw [want_moved]
  refine moved_and _ fun _ r => ?_
  simp [moved, reB, reT, gI]
theorem head_moved (g : Nat → Nat) (l : List Tok) : pHead (l.map (reT g)) = moved g (fun h => (h.1, gI g h.2.1, h.2.2)) (pHead l) := by
  cases l with
  | nil => rfl
  | cons t r =>
    simp only [List.map_cons, pHead, reT, names_moved]
    split
    · rfl
    · split
      · rfl
      · split <;> rfl
theorem alt_moved (g : Nat → Nat) {ex : List Tok → PR E} (he : ∀ l, ex (l.map (reT g)) = moved g (reE g) (ex l)) (l : List Tok) : pAlt ex (l.map (reT g)) = moved g (reA g) (pAlt ex l) := by
  unfold pAlt
  rw [head_moved]
  refine moved_and _ fun t r => ?_
  rw [want_moved]
  refine moved_and _ fun _ r => ?_
  rw [he]
  refine moved_and _ fun x r => ?_
  rw [want_moved]
  refine moved_and _ fun _ r => ?_
  simp [moved, reA]
theorem manyF_moved {α : Type} (g : Nat → Nat) {φ : α → α} {one : List Tok → PR α} (ho : ∀ l, one (l.map (reT g)) = moved g φ (one l)) : ∀ n l, manyF one n (l.map (reT g)) = moved g (List.map φ) (manyF one n l)
  | 0, l => rfl
  | n + 1, l => by
    unfold manyF
    rw [ho]
    refine moved_and _ fun x r => ?_
    rw [isS_moved]
    split
    · cases r <;> rfl
    · rw [manyF_moved g ho n]
      exact moved_and _ fun xs r => rfl
theorem many_moved {α : Type} (g : Nat → Nat) {φ : α → α} {one : List Tok → PR α} (ho : ∀ l, one (l.map (reT g)) = moved g φ (one l)) (l : List Tok) : many one (l.map (reT g)) = moved g (List.map φ) (many one l) := by
  unfold many
  rw [List.length_map]
  exact manyF_moved g ho _ l
theorem exp_moved (g : Nat → Nat) : ∀ d l, pExp d (l.map (reT g)) = moved g (reE g) (pExp d l)
  | 0, l => by cases l <;> rfl
  | d + 1, [] => rfl
  | d + 1, t :: r => by
    have ih := exp_moved g d
    have S := fun s => isS_moved g s (t :: r)
    simp only [List.map_cons] at S
    simp only [List.map_cons, pExp, S, atoms_moved]
    rw [show (reT g t).kind = t.kind from rfl]
    split
    · simp [moved, reE, reBs, reEs, reAs, reT, gI]
    · split
      · simp [moved, reE, reBs, reEs, reAs, reT, gI]
      · split
        · rw [want_moved]
          refine moved_and _ fun _ r => ?_
          rw [many_moved g (bind_moved g ih)]
          refine moved_and _ fun bs r => ?_
          rw [want_moved]
          refine moved_and _ fun _ r => ?_
          rw [ih]
          refine moved_and _ fun x r => ?_
          simp [moved, reE, reBs_map, reEs, reAs, reT, gI]
        · split
          · rw [ih]
            refine moved_and _ fun x r => ?_
            rw [want_moved]
            refine moved_and _ fun _ r => ?_
            rw [want_moved]
            refine moved_and _ fun _ r => ?_
            rw [many_moved g (alt_moved g ih)]
            refine moved_and _ fun as r => ?_
            simp [moved, reE, reBs, reEs, reAs_map, reT, gI]
          · split
            · rw [ih]
              refine moved_and _ fun x r => ?_
              rw [want_moved]
              exact moved_and _ fun _ r => rfl
            · rfl
theorem data_moved (g : Nat → Nat) (l : List Tok) : pData (l.map (reT g)) = moved g (reD g) (pData l) := by
  unfold pData
  rw [kind_moved]
  refine moved_and _ fun c r => ?_
  rw [kind_moved]
  refine moved_and _ fun n r => ?_
  rw [want_moved]
  refine moved_and _ fun _ r => ?_
  simp [moved, reD, reT, gI]
theorem datas_moved (g : Nat → Nat) : ∀ n l, pDatas n (l.map (reT g)) = moved g (List.map (reD g)) (pDatas n l)
  | 0, l => rfl
  | n + 1, l => by
    unfold pDatas
    rw [isS_moved]
    split
    · rw [← List.map_tail, data_moved]
      refine moved_and _ fun d r => ?_
      rw [datas_moved g n]
      exact moved_and _ fun ds r => rfl
    · rfl
theorem binds_moved (g : Nat → Nat) : ∀ n l, pBinds n (l.map (reT g)) = moved g (List.map (reB g)) (pBinds n l)
  | 0, l => by cases l <;> rfl
  | n + 1, [] => rfl
  | n + 1, t :: r => by
    have := bind_moved g (exp_moved g 60) (t :: r)
    simp only [List.map_cons] at this
    simp only [List.map_cons, pBinds]
    rw [this]
    refine moved_and _ fun b r => ?_
    rw [binds_moved g n]
    exact moved_and _ fun bs r => rfl
theorem prog_moved (g : Nat → Nat) (l : List Tok) : pProg (l.map (reT g)) = moved g (rePg g) (pProg l) := by
  unfold pProg
  rw [List.length_map, datas_moved]
  refine moved_and _ fun ds r => ?_
  rw [List.length_map, binds_moved]
  exact moved_and _ fun bs r => rfl

/-- Two lists of tokens that are the same but for their places are both one list, moved. -/
def idx : Nat → List Tok → List Tok
  | _, [] => []
  | n, t :: r => ⟨t.kind, t.text, t.num, n⟩ :: idx (n + 1) r
theorem idx_moved : ∀ (l : List Tok) (n : Nat), (idx n l).map (reT fun i => ((l[i - n]?).map (·.at')).getD 0) = l
  | [], n => rfl
  | t :: r, n => by
    simp only [idx, List.map_cons, reT, Nat.sub_self, List.getElem?_cons_zero, Option.map_some, Option.getD_some]
    have ih := idx_moved r (n + 1)
    conv => rhs; rw [← ih]
    congr 1
    have lo : ∀ (l : List Tok) (m : Nat), ∀ t ∈ idx m l, m ≤ t.at' := by
      intro l
      induction l with
      | nil => intro m t h; cases h
      | cons u q ih => intro m t h; simp only [idx, List.mem_cons] at h; rcases h with rfl | h; exact Nat.le_refl _; exact Nat.le_of_succ_le (ih _ _ h)
    refine List.map_congr_left fun u hu => ?_
    have := lo _ _ _ hu
    simp only [reT]
    rw [show u.at' - n = (u.at' - (n + 1)) + 1 by omega]
    rfl
theorem idx_three : ∀ (l m : List Tok) (n : Nat), l.map (fun t => (t.kind, t.text, t.num)) = m.map (fun t => (t.kind, t.text, t.num)) → idx n l = idx n m
  | [], [], _, _ => rfl
  | [], _ :: _, _, h => by cases h
  | _ :: _, [], _, h => by cases h
  | t :: r, u :: q, n, h => by
    simp only [List.map_cons, List.cons.injEq, Prod.mk.injEq] at h
    obtain ⟨⟨a, b, c⟩, h⟩ := h
    simp only [idx, a, b, c, idx_three r q (n + 1) h]

end Go.Proofs.YtofgnpehlheeiaaGreatDoor

/- Layer 6, made ready: which trees are the same, how many expressions, how deep: of no program. -/
namespace Go.Proofs.YtofgnpehlheeiaaGreatDoor

def sameAtm : List Atm → List Atm → Bool
  | [], [] => true
  | x :: r, y :: q => (decide (x.name = y.name) && (decide (x.name ≠ []) || decide (x.num = y.num))) && sameAtm r q
  | _, _ => false
mutual
def sameE : E → E → Bool
  | .mk k _ n m ts bs ks as, y =>
    match y with
    | .mk k' _ n' m' ts' bs' ks' as' =>
      if k ≠ k' then false
      else if k = 1 ∨ k = 2 ∨ k = 3 then decide (n = n') && sameAtm ts ts'
      else if k = 4 then decide (m = m')
      else if k = 5 then sameBs bs bs' && sameK ks ks'
      else if k = 6 then sameK ks ks' && sameAs as as'
      else true
def sameB : B → B → Bool
  | .mk n _ as x, y =>
    match y with
    | .mk n' _ as' x' => decide (n = n') && decide (as = as') && sameE x x'
def sameA : A → A → Bool
  | .mk k _ n m vs x, y =>
    match y with
    | .mk k' _ n' m' vs' x' => decide (k = k') && sameE x x' && (decide (¬ (k = 1 ∨ k = 3)) || decide (n = n')) && (decide (k ≠ 2) || decide (m = m')) && (decide (k ≠ 1) || decide (vs = vs'))
def sameK : List E → List E → Bool
  | [], y => y.isEmpty
  | x :: _, y =>
    match y with
    | [] => false
    | x' :: _ => sameE x x'
def sameBs : List B → List B → Bool
  | [], y => y.isEmpty
  | x :: r, y =>
    match y with
    | [] => false
    | x' :: q => sameB x x' && sameBs r q
def sameAs : List A → List A → Bool
  | [], y => y.isEmpty
  | x :: r, y =>
    match y with
    | [] => false
    | x' :: q => sameA x x' && sameAs r q
end
def sameDs : List D → List D → Bool
  | [], [] => true
  | x :: r, y :: q => (decide (x.name = y.name) && decide (x.arity = y.arity)) && sameDs r q
  | _, _ => false
def sameP (p q : Pg) : Bool := sameDs p.datas q.datas && sameBs p.binds q.binds

mutual
/-- how many expressions one is, with those in it (of an alternative of no kind none) -/
def cntE : E → Nat
  | .mk k _ _ _ _ bs ks as => 1 + (if k = 5 then cntBs bs else 0) + (if k = 5 ∨ k = 6 then cntK ks else 0) + (if k = 6 then cntAs as else 0)
def cntB : B → Nat
  | .mk _ _ _ x => cntE x
def cntA : A → Nat
  | .mk k _ _ _ _ x => if k = 1 ∨ k = 2 ∨ k = 3 then cntE x else 0
def cntK : List E → Nat
  | [] => 0
  | x :: _ => cntE x
def cntBs : List B → Nat
  | [] => 0
  | x :: r => cntB x + cntBs r
def cntAs : List A → Nat
  | [] => 0
  | x :: r => cntA x + cntAs r
end
mutual
/-- how deep one is -/
def dpE : E → Nat
  | .mk k _ _ _ _ bs ks as => 1 + max (if k = 5 then dpBs bs else 0) (max (if k = 5 ∨ k = 6 then dpK ks else 0) (if k = 6 then dpAs as else 0))
def dpB : B → Nat
  | .mk _ _ _ x => dpE x
def dpA : A → Nat
  | .mk _ _ _ _ _ x => dpE x
def dpK : List E → Nat
  | [] => 0
  | x :: _ => dpE x
def dpBs : List B → Nat
  | [] => 0
  | x :: r => max (dpB x) (dpBs r)
def dpAs : List A → Nat
  | [] => 0
  | x :: r => max (dpA x) (dpAs r)
end
def sizeP (p : Pg) : Nat := cntBs p.binds

theorem sameAtm_self : ∀ l, sameAtm l l = true
  | [] => rfl
  | x :: r => by simp [sameAtm, sameAtm_self r]
mutual
theorem sameE_moved (g h : Nat → Nat) : ∀ x : E, sameE (reE g x) (reE h x) = true
  | .mk k a n m ts bs ks as => by
    have h1 := sameBs_moved g h bs
    have h2 := sameK_moved g h ks
    have h3 := sameAs_moved g h as
    simp only [reE, sameE, h1, h2, h3, sameAtm_self]
    simp
theorem sameB_moved (g h : Nat → Nat) : ∀ x : B, sameB (reB g x) (reB h x) = true
  | .mk n a as x => by
    have h1 := sameE_moved g h x
    simp only [reB, sameB, h1]
    simp
theorem sameA_moved (g h : Nat → Nat) : ∀ x : A, sameA (reA g x) (reA h x) = true
  | .mk k a n m vs x => by
    have h1 := sameE_moved g h x
    simp only [reA, sameA, h1]
    simp
theorem sameK_moved (g h : Nat → Nat) : ∀ x : List E, sameK (reEs g x) (reEs h x) = true
  | [] => by simp [reEs, sameK]
  | x :: r => by
    have h1 := sameE_moved g h x
    simp only [reEs, sameK, h1]
theorem sameBs_moved (g h : Nat → Nat) : ∀ x : List B, sameBs (reBs g x) (reBs h x) = true
  | [] => by simp [reBs, sameBs]
  | x :: r => by
    have h1 := sameB_moved g h x
    have h2 := sameBs_moved g h r
    simp only [reBs, sameBs, h1, h2]
    rfl
theorem sameAs_moved (g h : Nat → Nat) : ∀ x : List A, sameAs (reAs g x) (reAs h x) = true
  | [] => by simp [reAs, sameAs]
  | x :: r => by
    have h1 := sameA_moved g h x
    have h2 := sameAs_moved g h r
    simp only [reAs, sameAs, h1, h2]
    rfl
end
mutual
theorem sameE_self : ∀ x : E, sameE x x = true
  | .mk k a n m ts bs ks as => by
    have h1 := sameBs_self bs
    have h2 := sameK_self ks
    have h3 := sameAs_self as
    simp only [sameE, h1, h2, h3, sameAtm_self]
    simp
theorem sameB_self : ∀ x : B, sameB x x = true
  | .mk n a as x => by
    have h1 := sameE_self x
    simp only [sameB, h1]
    simp
theorem sameA_self : ∀ x : A, sameA x x = true
  | .mk k a n m vs x => by
    have h1 := sameE_self x
    simp only [sameA, h1]
    simp
theorem sameK_self : ∀ x : List E, sameK x x = true
  | [] => by simp [sameK]
  | x :: r => by
    have h1 := sameE_self x
    simp only [sameK, h1]
theorem sameBs_self : ∀ x : List B, sameBs x x = true
  | [] => by simp [sameBs]
  | x :: r => by
    have h1 := sameB_self x
    have h2 := sameBs_self r
    simp only [sameBs, h1, h2]
    rfl
theorem sameAs_self : ∀ x : List A, sameAs x x = true
  | [] => by simp [sameAs]
  | x :: r => by
    have h1 := sameA_self x
    have h2 := sameAs_self r
    simp only [sameAs, h1, h2]
    rfl
end
theorem sameDs_moved (g h : Nat → Nat) : ∀ l : List D, sameDs (l.map (reD g)) (l.map (reD h)) = true
  | [] => rfl
  | x :: r => by simp [sameDs, reD, sameDs_moved g h r]
theorem sameDs_self : ∀ l : List D, sameDs l l = true
  | [] => rfl
  | x :: r => by simp [sameDs, sameDs_self r]
theorem sameP_self (p : Pg) : sameP p p = true := by simp [sameP, sameDs_self, sameBs_self]
theorem sameP_moved (g h : Nat → Nat) (p : Pg) : sameP (rePg g p) (rePg h p) = true := by
  simp only [sameP, rePg, sameDs_moved]
  rw [← reBs_map, ← reBs_map, sameBs_moved]
  rfl
theorem sameBs_app : ∀ a b c d : List B, sameBs a b = true → sameBs c d = true → sameBs (a ++ c) (b ++ d) = true
  | [], [], _, _, _, h => h
  | [], _ :: _, _, _, h, _ => by simp [sameBs] at h
  | _ :: _, [], _, _, h, _ => by simp [sameBs] at h
  | x :: a, y :: b, c, d, h, h' => by
    simp only [sameBs, List.cons_append, Bool.and_eq_true] at h ⊢
    exact ⟨h.1, sameBs_app a b c d h.2 h'⟩
theorem sameDs_app : ∀ a b c d : List D, sameDs a b = true → sameDs c d = true → sameDs (a ++ c) (b ++ d) = true
  | [], [], _, _, _, h => h
  | [], _ :: _, _, _, h, _ => by simp [sameDs] at h
  | _ :: _, [], _, _, h, _ => by simp [sameDs] at h
  | x :: a, y :: b, c, d, h, h' => by
    simp only [sameDs, List.cons_append, Bool.and_eq_true] at h ⊢
    exact ⟨h.1, sameDs_app a b c d h.2 h'⟩
theorem cntBs_app : ∀ a b : List B, cntBs (a ++ b) = cntBs a + cntBs b
  | [], b => by simp [cntBs]
  | x :: a, b => by simp only [List.cons_append, cntBs, cntBs_app a b]; omega
mutual
theorem cntE_moved (g : Nat → Nat) : ∀ x : E, cntE (reE g x) = cntE x
  | .mk k a n m ts bs ks as => by
    have h1 := cntBs_moved g bs
    have h2 := cntK_moved g ks
    have h3 := cntAs_moved g as
    simp only [reE, cntE, h1, h2, h3]
theorem cntB_moved (g : Nat → Nat) : ∀ x : B, cntB (reB g x) = cntB x
  | .mk n a as x => by simp only [reB, cntB, cntE_moved g x]
theorem cntA_moved (g : Nat → Nat) : ∀ x : A, cntA (reA g x) = cntA x
  | .mk k a n m vs x => by simp only [reA, cntA, cntE_moved g x]
theorem cntK_moved (g : Nat → Nat) : ∀ x : List E, cntK (reEs g x) = cntK x
  | [] => by simp [reEs, cntK]
  | x :: r => by simp only [reEs, cntK, cntE_moved g x]
theorem cntBs_moved (g : Nat → Nat) : ∀ x : List B, cntBs (reBs g x) = cntBs x
  | [] => by simp [reBs, cntBs]
  | x :: r => by simp only [reBs, cntBs, cntB_moved g x, cntBs_moved g r]
theorem cntAs_moved (g : Nat → Nat) : ∀ x : List A, cntAs (reAs g x) = cntAs x
  | [] => by simp [reAs, cntAs]
  | x :: r => by simp only [reAs, cntAs, cntA_moved g x, cntAs_moved g r]
end

end Go.Proofs.YtofgnpehlheeiaaGreatDoor

/- Layer 6, made ready: where a fault is, of tokens that have moved: of no program. -/
namespace Go.Proofs.YtofgnpehlheeiaaGreatDoor

/-- what is left, well or with a fault, is an end of what there was -/
def restT {α : Type} : PR α → List Tok
  | .ok (_, r) => r
  | .error (_, r) => r
def Sfx {α : Type} (p : List Tok → PR α) : Prop := ∀ l, restT (p l) <:+ l
theorem sfx_and {α β : Type} {l : List Tok} {p : PR α} {f : α → List Tok → PR β} (hp : restT p <:+ l) (hf : ∀ a, Sfx (f a)) : restT (andT p f) <:+ l := by
  rcases p with ⟨e, r⟩ | ⟨a, r⟩
  · exact hp
  · exact (hf a r).trans hp
theorem sfx_ok {α β : Type} (a : α → List Tok → β) (x : α) : Sfx (fun l => (.ok (a x l, l) : PR β)) := fun l => List.suffix_refl l
theorem kind_sfx (k : Int) : Sfx (pKind k) := fun l => by
  cases l with
  | nil => exact List.suffix_refl _
  | cons t r =>
    simp only [pKind]
    split
    · exact List.suffix_cons t r
    · exact List.suffix_refl _
theorem want_sfx (s : List UInt8) : Sfx (pWant s) := fun l => by
  unfold pWant
  split
  · exact List.tail_suffix l
  · exact List.suffix_refl _
theorem names_sfx : ∀ l, (pNames l).2 <:+ l
  | [] => List.suffix_refl _
  | t :: r => by
    unfold pNames
    split
    · exact (names_sfx r).trans (List.suffix_cons t r)
    · exact List.suffix_refl _
theorem atoms_sfx : ∀ l, (pAtoms l).2 <:+ l
  | [] => List.suffix_refl _
  | t :: r => by
    unfold pAtoms
    split
    · exact (atoms_sfx r).trans (List.suffix_cons t r)
    · exact List.suffix_refl _
theorem args_sfx : Sfx pArgs := fun l => by
  unfold pArgs
  split
  · refine sfx_and ((kind_sfx 1 _).trans (List.tail_suffix l)) fun t r => ?_
    exact sfx_and ((want_sfx _ _).trans (names_sfx r)) fun _ r => List.suffix_refl _
  · exact List.suffix_refl _
theorem bind_sfx {ex : List Tok → PR E} (he : Sfx ex) : Sfx (pBind ex) := fun l => by
  unfold pBind
  refine sfx_and (kind_sfx 1 l) fun t r => ?_
  refine sfx_and (want_sfx _ r) fun _ r => ?_
  refine sfx_and (args_sfx r) fun as r => ?_
  refine sfx_and (he r) fun x r => ?_
  exact sfx_and (want_sfx _ r) fun _ r => List.suffix_refl _
theorem head_sfx : Sfx pHead := fun l => by
  cases l with
  | nil => exact List.suffix_refl _
  | cons t r =>
    simp only [pHead]
    split
    · exact (names_sfx r).trans (List.suffix_cons t r)
    · split
      · exact List.suffix_cons t r
      · split
        · exact List.suffix_cons t r
        · exact List.suffix_refl _
theorem alt_sfx {ex : List Tok → PR E} (he : Sfx ex) : Sfx (pAlt ex) := fun l => by
  unfold pAlt
  refine sfx_and (head_sfx l) fun t r => ?_
  refine sfx_and (want_sfx _ r) fun _ r => ?_
  refine sfx_and (he r) fun x r => ?_
  exact sfx_and (want_sfx _ r) fun _ r => List.suffix_refl _
theorem manyF_sfx {α : Type} {one : List Tok → PR α} (ho : Sfx one) : ∀ n, Sfx (manyF one n)
  | 0 => fun l => List.suffix_refl _
  | n + 1 => fun l => by
    unfold manyF
    refine sfx_and (ho l) fun x r => ?_
    split
    · exact List.tail_suffix r
    · exact sfx_and (manyF_sfx ho n r) fun xs r => List.suffix_refl _
theorem exp_sfx : ∀ d, Sfx (pExp d)
  | 0 => fun l => by cases l <;> exact List.suffix_refl _
  | d + 1 => fun l => by
    have ih := exp_sfx d
    cases l with
    | nil => exact List.suffix_refl _
    | cons t r =>
      simp only [pExp]
      split
      · exact List.suffix_cons t r
      · split
        · exact (atoms_sfx r).trans (List.suffix_cons t r)
        · split
          · refine sfx_and ((want_sfx _ r).trans (List.suffix_cons t r)) fun _ r => ?_
            refine sfx_and (manyF_sfx (bind_sfx ih) _ r) fun bs r => ?_
            refine sfx_and (want_sfx _ r) fun _ r => ?_
            exact sfx_and (ih r) fun x r => List.suffix_refl _
          · split
            · refine sfx_and ((ih r).trans (List.suffix_cons t r)) fun x r => ?_
              refine sfx_and (want_sfx _ r) fun _ r => ?_
              refine sfx_and (want_sfx _ r) fun _ r => ?_
              exact sfx_and (manyF_sfx (alt_sfx ih) _ r) fun as r => List.suffix_refl _
            · split
              · refine sfx_and ((ih r).trans (List.suffix_cons t r)) fun x r => ?_
                exact sfx_and (want_sfx _ r) fun _ r => List.suffix_refl _
              · exact List.suffix_refl _
theorem data_sfx : Sfx pData := fun l => by
  unfold pData
  refine sfx_and (kind_sfx _ l) fun c r => ?_
  refine sfx_and (kind_sfx _ r) fun n r => ?_
  exact sfx_and (want_sfx _ r) fun _ r => List.suffix_refl _
theorem datas_sfx : ∀ n, Sfx (pDatas n)
  | 0 => fun l => List.suffix_refl _
  | n + 1 => fun l => by
    unfold pDatas
    split
    · refine sfx_and ((data_sfx _).trans (List.tail_suffix l)) fun d r => ?_
      exact sfx_and (datas_sfx n r) fun ds r => List.suffix_refl _
    · exact List.suffix_refl _
theorem binds_sfx : ∀ n, Sfx (pBinds n)
  | 0 => fun l => by cases l <;> exact List.suffix_refl _
  | n + 1 => fun l => by
    cases l with
    | nil => exact List.suffix_refl _
    | cons t r =>
      simp only [pBinds]
      refine sfx_and (bind_sfx (exp_sfx 60) _) fun d r => ?_
      exact sfx_and (binds_sfx n r) fun ds r => List.suffix_refl _
theorem prog_sfx : Sfx pProg := fun l => by
  unfold pProg
  refine sfx_and (datas_sfx _ l) fun ds r => ?_
  exact sfx_and (binds_sfx _ r) fun bs r => List.suffix_refl _

def kindsT (l : List Tok) : List (Int × List UInt8 × Int) := l.map fun t => (t.kind, t.text, t.num)
/-- Tokens that are the same but for their places: the same tree but for the places, or the same fault at the same token. -/
theorem prog_blanks {l m : List Tok} (h : kindsT l = kindsT m) :
    (∃ p q r s, pProg l = .ok (p, r) ∧ pProg m = .ok (q, s) ∧ sameP p q = true) ∨
    ∃ e n, n ≤ l.length ∧ pProg l = .error (e, l.drop n) ∧ pProg m = .error (e, m.drop n) := by
  have hl := idx_moved l 0
  have hm := idx_moved m 0
  have hi : idx 0 l = idx 0 m := idx_three l m 0 h
  have Pl := prog_moved (fun i => ((l[i - 0]?).map (·.at')).getD 0) (idx 0 l)
  have Pm := prog_moved (fun i => ((m[i - 0]?).map (·.at')).getD 0) (idx 0 m)
  rw [hl] at Pl
  rw [hm, ← hi] at Pm
  have S := prog_sfx (idx 0 l)
  rcases e : pProg (idx 0 l) with ⟨er, r⟩ | ⟨p, r⟩
  · rw [e] at Pl Pm S
    refine .inr ⟨er, (idx 0 l).length - r.length, ?_, ?_, ?_⟩
    · have : (idx 0 l).length = l.length := by conv => rhs; rw [← hl]
                                               rw [List.length_map]
      omega
    · rw [Pl]
      have := List.suffix_iff_eq_drop.mp S
      simp only [restT] at this
      simp only [moved]
      congr 2
      conv => lhs; rw [this]
      conv => rhs; rw [← hl]
      rw [List.map_drop, hl]
    · rw [Pm]
      have := List.suffix_iff_eq_drop.mp S
      simp only [restT] at this
      simp only [moved]
      congr 2
      conv => lhs; rw [this]
      rw [List.map_drop, hi, hm]
  · rw [e] at Pl Pm
    exact .inl ⟨_, _, _, _, Pl, Pm, sameP_moved _ _ p⟩

end Go.Proofs.YtofgnpehlheeiaaGreatDoor

/- Layer 6: what tokens of a text are like: numbers have no text, no word but a reserved one has a reserved one's text: of no program. -/
namespace Go.Proofs.YtofgnpehlheeiaaGreatDoor

/-- a text with which a sign or a reserved word stands in the grammar -/
def isMark (s : List UInt8) : Bool :=
  resv s || match s with
    | [] => false
    | c :: _ => !(sm c.toNat) && !(gr c.toNat) && !(decide (c.toNat = 35))
structure GoodK (kind : Int) (text : List UInt8) (num : Int) : Prop where
  int : kind = 4 → text = []
  name : kind = 1 → num = 0
  mark : isMark text = true → kind = 5 ∨ kind = 6
  lo : -9223372036854775808 ≤ num
  hi : num ≤ 9223372036854775807
  kd : 1 ≤ kind ∧ kind ≤ 6
theorem numOf_bounds {t : List UInt8} {v : Int} (h : numOf t = some v) : -9223372036854775808 ≤ v ∧ v ≤ 9223372036854775807 := by
  unfold numOf at h
  split at h
  · rename_i v' e
    cases h
    unfold Lib.parseIntB at e
    simp only at e
    split at e
    · cases e
    · split at e
      · cases e
      · cases e
      · split at e
        · cases e
        · split at e
          · cases e
          · rename_i h1 h2
            cases e
            split <;> (simp_all; try omega)
  · cases h
theorem take_head {c : UInt8} {r : List UInt8} {n : Nat} (h : 0 < n) : ∃ q, (c :: r).take n = c :: q := by
  cases n with
  | zero => omega
  | succ n => exact ⟨r.take n, rfl⟩
theorem one_good {l : List UInt8} {t : Tk} (h : one l = .ok t) : GoodK t.kind t.text t.num := by
  cases l with
  | nil => cases h
  | cons c r =>
    unfold one at h
    simp only at h
    split at h
    · rename_i hs
      cases h
      have hn : 0 < runN rn (c :: r) := by
        have : rn c.toNat = true := by simp only [sm, rn, decide_eq_true_eq] at hs ⊢; exact .inl hs
        simp only [runN, this, if_true]; omega
      obtain ⟨q, e⟩ := take_head (c := c) (r := r) hn
      simp only [e]
      refine ⟨fun z => ?_, fun _ => rfl, fun z => ?_, by omega, by omega, by split <;> omega⟩
      · split at z <;> omega
      · simp only [isMark, hs, Bool.not_true, Bool.false_and, Bool.or_false] at z
        rw [if_pos z]
        exact .inr rfl
    · split at h
      · rename_i hs
        cases h
        have hn : 0 < runN rn (c :: r) := by
          have : rn c.toNat = true := by simp only [gr, rn, decide_eq_true_eq] at hs ⊢; exact .inr (.inl hs)
          simp only [runN, this, if_true]; omega
        obtain ⟨q, e⟩ := take_head (c := c) (r := r) hn
        simp only [e]
        refine ⟨fun z => by omega, fun _ => rfl, fun z => ?_, by omega, by omega, by omega⟩
        simp only [isMark, hs, Bool.not_true, Bool.and_false, Bool.false_and, Bool.or_false] at z
        exfalso
        simp only [resv, Bool.or_eq_true, beq_iff_eq, List.cons.injEq] at z
        simp only [gr, decide_eq_true_eq] at hs
        rcases z with (((⟨rfl, _⟩ | ⟨rfl, _⟩) | ⟨rfl, _⟩) | ⟨rfl, _⟩) | ⟨rfl, _⟩ <;> exact absurd hs (by decide)
      · split at h
        · rename_i hs
          cases h
          obtain ⟨q, e⟩ := take_head (c := c) (r := r) (Nat.succ_pos (runN rn r))
          simp only [e]
          refine ⟨fun z => by omega, fun _ => rfl, fun z => ?_, by omega, by omega, by omega⟩
          simp only [isMark, hs.1, decide_true, Bool.not_true, Bool.and_false, Bool.or_false] at z
          exfalso
          have hs := hs.1
          simp only [resv, Bool.or_eq_true, beq_iff_eq, List.cons.injEq] at z
          rcases z with (((⟨rfl, _⟩ | ⟨rfl, _⟩) | ⟨rfl, _⟩) | ⟨rfl, _⟩) | ⟨rfl, _⟩ <;> exact absurd hs (by decide)
        · split at h
          · split at h
            · rename_i v hv
              cases h
              have := numOf_bounds hv
              exact ⟨fun _ => rfl, fun z => by simp at z, fun z => by simp [isMark, resv] at z, this.1, this.2, by simp⟩
            · cases h
          · split at h
            · cases h; exact ⟨fun z => by simp at z, fun z => by simp at z, fun _ => .inl rfl, by simp, by simp, by simp⟩
            · split at h
              · cases h; exact ⟨fun z => by simp at z, fun z => by simp at z, fun _ => .inl rfl, by simp, by simp, by simp⟩
              · cases h
def Good (l : List Tok) : Prop := ∀ t ∈ l, GoodK t.kind t.text t.num
theorem scanF_good : ∀ f l a ts, scanF f l a = .ok ts → Good ts
  | 0, _, _, _, h => by cases h; exact fun t ht => by cases ht
  | f + 1, l, a, ts, h => by
    by_cases hk : skipN false l < l.length
    · rcases hr : readT (l.drop (skipN false l)) with e | t
      · rw [scanF_err _ _ _ hk hr] at h; cases h
      · rw [scanF_ok _ _ _ hk hr] at h
        rcases hq : scanF f ((l.drop (skipN false l)).drop t.len) (a + skipN false l + t.len) with e | us
        · rw [hq] at h; cases h
        · rw [hq] at h
          cases h
          have ih := scanF_good f _ _ _ hq
          intro u hu
          rcases List.mem_append.1 hu with z | z
          · rw [List.mem_singleton] at z; subst z; exact one_good (readT_one hr).1
          · exact ih u z
    · rw [scanF_end _ _ _ hk] at h
      cases h
      exact fun t ht => by cases ht
theorem scan_good {l : List UInt8} {ts : List Tok} (h : scanAll l = .ok ts) : Good ts := by
  unfold scanAll at h
  split at h
  · cases h
  · exact scanF_good _ _ _ _ h
theorem Good.tail {t : Tok} {l : List Tok} (h : Good (t :: l)) : Good l := fun u hu => h u (List.mem_cons_of_mem _ hu)
theorem Good.head {t : Tok} {l : List Tok} (h : Good (t :: l)) : GoodK t.kind t.text t.num := h t (List.mem_cons_self ..)
/-- the first token's text says whether a sign or a word stands there -/
theorem Good.stands {t : Tok} {l : List Tok} (h : Good (t :: l)) {s : List UInt8} (hs : isMark s = true) : isS s (t :: l) = decide (t.text = s) := by
  unfold isS
  by_cases e : t.text = s
  · subst e
    rcases h.head.mark hs with z | z <;> simp [z]
  · simp [e]
/-! what is left of good tokens is good -/
theorem good_suffix {l r : List Tok} (h : Good l) (k : Nat) (e : r = l.drop k) : Good r := by
  subst e
  exact fun t ht => h t (List.mem_of_mem_drop ht)

end Go.Proofs.YtofgnpehlheeiaaGreatDoor
