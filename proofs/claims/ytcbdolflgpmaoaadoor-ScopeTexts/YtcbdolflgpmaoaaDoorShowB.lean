/- Layer 6, made ready: the tree of tokens that have moved is the tree, moved: of no program. -/
import Derived.Test.YtcbdolflgpmaoaaDoorTree
import Derived.Test.YtcbdolflgpmaoaaDoorBack
import Derived.Test.YtcbdolflgpmaoaaDoorTreeGood
namespace Go.Proofs.YtcbdolflgpmaoaaDoor

def reT (g : Nat → Nat) (t : Tok) : Tok := ⟨t.kind, t.text, t.num, g t.at'⟩
def gI (g : Nat → Nat) (z : Int) : Int := (g z.toNat : Nat)
mutual
def reE (g : Nat → Nat) : E → E
  | .mk k a n m at' bs ks as => .mk k (gI g a) n m at' (reBs g bs) (reEs g ks) (reAs g as)
def reB (g : Nat → Nat) : B → B
  | .mk n a as x => .mk n (gI g a) as (reE g x)
def reA (g : Nat → Nat) : A → A
  | .mk k a n m vs x => .mk k (gI g a) n m vs (reE g x)
def reEs (g : Nat → Nat) : List E → List E
  | [] => []
  | x :: r => reE g x :: reEs g r
def reBs (g : Nat → Nat) : List B → List B
  | [] => []
  | x :: r => reB g x :: reBs g r
def reAs (g : Nat → Nat) : List A → List A
  | [] => []
  | x :: r => reA g x :: reAs g r
end
theorem reEs_map (g : Nat → Nat) : ∀ l, reEs g l = l.map (reE g)
  | [] => by simp [reEs]
  | x :: r => by simp [reEs, reEs_map g r]
theorem reBs_map (g : Nat → Nat) : ∀ l, reBs g l = l.map (reB g)
  | [] => by simp [reBs]
  | x :: r => by simp [reBs, reBs_map g r]
theorem reAs_map (g : Nat → Nat) : ∀ l, reAs g l = l.map (reA g)
  | [] => by simp [reAs]
  | x :: r => by simp [reAs, reAs_map g r]
def reD (g : Nat → Nat) (d : D) : D := ⟨d.name, d.arity, gI g d.at'⟩
def rePg (g : Nat → Nat) (p : Pg) : Pg := ⟨p.datas.map (reD g), p.binds.map (reB g)⟩

def moved {α β : Type} (g : Nat → Nat) (φ : α → β) (p : PR α) : PR β :=
  match p with
  | .ok (a, r) => .ok (φ a, r.map (reT g))
  | .error (e, r) => .error (e, r.map (reT g))
theorem moved_and {α α' β β' : Type} {g : Nat → Nat} {φ : α → α'} {ψ : β → β'} (p : PR α) {f : α → List Tok → PR β} {f' : α' → List Tok → PR β'}
    (h : ∀ a r, f' (φ a) (r.map (reT g)) = moved g ψ (f a r)) : andT (moved g φ p) f' = moved g ψ (andT p f) := by
  rcases p with ⟨e, r⟩ | ⟨a, r⟩
  · rfl
  · exact h a r
theorem kind_moved (g : Nat → Nat) (k : Int) (l : List Tok) : pKind k (l.map (reT g)) = moved g (reT g) (pKind k l) := by
  cases l with
  | nil => rfl
  | cons t r => simp only [List.map_cons, pKind, reT]; split <;> rfl
theorem isS_moved (g : Nat → Nat) (s : List UInt8) (l : List Tok) : isS s (l.map (reT g)) = isS s l := by
  cases l <;> rfl
theorem want_moved (g : Nat → Nat) (s : List UInt8) (l : List Tok) : pWant s (l.map (reT g)) = moved g id (pWant s l) := by
  unfold pWant
  rw [isS_moved]
  split
  · cases l <;> rfl
  · rfl
theorem names_moved (g : Nat → Nat) : ∀ l : List Tok, pNames (l.map (reT g)) = ((pNames l).1, (pNames l).2.map (reT g))
  | [] => rfl
  | t :: r => by
    simp only [List.map_cons, pNames, names_moved g r, reT]
    split <;> rfl
theorem atoms_moved (g : Nat → Nat) : ∀ l : List Tok, pAtoms (l.map (reT g)) = ((pAtoms l).1, (pAtoms l).2.map (reT g))
  | [] => rfl
  | t :: r => by
    simp only [List.map_cons, pAtoms, atoms_moved g r, reT]
    split <;> rfl
theorem args_moved (g : Nat → Nat) (l : List Tok) : pArgs (l.map (reT g)) = moved g id (pArgs l) := by
  unfold pArgs
  rw [isS_moved]
  split
  · rw [← List.map_tail, kind_moved]
    refine moved_and _ fun t r => ?_
    rw [names_moved, want_moved]
    exact moved_and _ fun _ r2 => rfl
  · rfl
theorem bind_moved (g : Nat → Nat) {ex : List Tok → PR E} (he : ∀ l, ex (l.map (reT g)) = moved g (reE g) (ex l)) (l : List Tok) : pBind ex (l.map (reT g)) = moved g (reB g) (pBind ex l) := by
  unfold pBind
  rw [kind_moved]
  refine moved_and _ fun t r => ?_
  rw [want_moved]
  refine moved_and _ fun _ r => ?_
  rw [args_moved]
  refine moved_and _ fun as r => ?_
  rw [he]
  refine moved_and _ fun x r => ?_
  rw [want_moved]
  refine moved_and _ fun _ r => ?_
  simp [moved, reB, reT, gI]
theorem head_moved (g : Nat → Nat) (l : List Tok) : pHead (l.map (reT g)) = moved g (fun h => (h.1, gI g h.2.1, h.2.2)) (pHead l) := by
  cases l with
  | nil => rfl
  | cons t r =>
    simp only [List.map_cons, pHead, reT, names_moved]
    split
    · rfl
    · split
      · rfl
      · split <;> rfl
theorem alt_moved (g : Nat → Nat) {ex : List Tok → PR E} (he : ∀ l, ex (l.map (reT g)) = moved g (reE g) (ex l)) (l : List Tok) : pAlt ex (l.map (reT g)) = moved g (reA g) (pAlt ex l) := by
  unfold pAlt
  rw [head_moved]
  refine moved_and _ fun t r => ?_
  rw [want_moved]
  refine moved_and _ fun _ r => ?_
  rw [he]
  refine moved_and _ fun x r => ?_
  rw [want_moved]
  refine moved_and _ fun _ r => ?_
  simp [moved, reA]
theorem manyF_moved {α : Type} (g : Nat → Nat) {φ : α → α} {one : List Tok → PR α} (ho : ∀ l, one (l.map (reT g)) = moved g φ (one l)) : ∀ n l, manyF one n (l.map (reT g)) = moved g (List.map φ) (manyF one n l)
  | 0, l => rfl
  | n + 1, l => by
    unfold manyF
    rw [ho]
    refine moved_and _ fun x r => ?_
    rw [isS_moved]
    split
    · cases r <;> rfl
    · rw [manyF_moved g ho n]
      exact moved_and _ fun xs r => rfl
theorem many_moved {α : Type} (g : Nat → Nat) {φ : α → α} {one : List Tok → PR α} (ho : ∀ l, one (l.map (reT g)) = moved g φ (one l)) (l : List Tok) : many one (l.map (reT g)) = moved g (List.map φ) (many one l) := by
  unfold many
  rw [List.length_map]
  exact manyF_moved g ho _ l
theorem exp_moved (g : Nat → Nat) : ∀ d l, pExp d (l.map (reT g)) = moved g (reE g) (pExp d l)
  | 0, l => by cases l <;> rfl
  | d + 1, [] => rfl
  | d + 1, t :: r => by
    have ih := exp_moved g d
    have S := fun s => isS_moved g s (t :: r)
    simp only [List.map_cons] at S
    simp only [List.map_cons, pExp, S, atoms_moved]
    rw [show (reT g t).kind = t.kind from rfl]
    split
    · simp [moved, reE, reBs, reEs, reAs, reT, gI]
    · split
      · simp [moved, reE, reBs, reEs, reAs, reT, gI]
      · split
        · rw [want_moved]
          refine moved_and _ fun _ r => ?_
          rw [many_moved g (bind_moved g ih)]
          refine moved_and _ fun bs r => ?_
          rw [want_moved]
          refine moved_and _ fun _ r => ?_
          rw [ih]
          refine moved_and _ fun x r => ?_
          simp [moved, reE, reBs_map, reEs, reAs, reT, gI]
        · split
          · rw [ih]
            refine moved_and _ fun x r => ?_
            rw [want_moved]
            refine moved_and _ fun _ r => ?_
            rw [want_moved]
            refine moved_and _ fun _ r => ?_
            rw [many_moved g (alt_moved g ih)]
            refine moved_and _ fun as r => ?_
            simp [moved, reE, reBs, reEs, reAs_map, reT, gI]
          · split
            · rw [ih]
              refine moved_and _ fun x r => ?_
              rw [want_moved]
              exact moved_and _ fun _ r => rfl
            · rfl
theorem data_moved (g : Nat → Nat) (l : List Tok) : pData (l.map (reT g)) = moved g (reD g) (pData l) := by
  unfold pData
  rw [kind_moved]
  refine moved_and _ fun c r => ?_
  rw [kind_moved]
  refine moved_and _ fun n r => ?_
  rw [want_moved]
  refine moved_and _ fun _ r => ?_
  simp [moved, reD, reT, gI]
theorem datas_moved (g : Nat → Nat) : ∀ n l, pDatas n (l.map (reT g)) = moved g (List.map (reD g)) (pDatas n l)
  | 0, l => rfl
  | n + 1, l => by
    unfold pDatas
    rw [isS_moved]
    split
    · rw [← List.map_tail, data_moved]
      refine moved_and _ fun d r => ?_
      rw [datas_moved g n]
      exact moved_and _ fun ds r => rfl
    · rfl
theorem binds_moved (g : Nat → Nat) : ∀ n l, pBinds n (l.map (reT g)) = moved g (List.map (reB g)) (pBinds n l)
  | 0, l => by cases l <;> rfl
  | n + 1, [] => rfl
  | n + 1, t :: r => by
    have := bind_moved g (exp_moved g 60) (t :: r)
    simp only [List.map_cons] at this
    simp only [List.map_cons, pBinds]
    rw [this]
    refine moved_and _ fun b r => ?_
    rw [binds_moved g n]
    exact moved_and _ fun bs r => rfl
theorem prog_moved (g : Nat → Nat) (l : List Tok) : pProg (l.map (reT g)) = moved g (rePg g) (pProg l) := by
  unfold pProg
  rw [List.length_map, datas_moved]
  refine moved_and _ fun ds r => ?_
  rw [List.length_map, binds_moved]
  exact moved_and _ fun bs r => rfl

/-- Two lists of tokens that are the same but for their places are both one list, moved. -/
def idx : Nat → List Tok → List Tok
  | _, [] => []
  | n, t :: r => ⟨t.kind, t.text, t.num, n⟩ :: idx (n + 1) r
theorem idx_moved : ∀ (l : List Tok) (n : Nat), (idx n l).map (reT fun i => ((l[i - n]?).map (·.at')).getD 0) = l
  | [], n => rfl
  | t :: r, n => by
    simp only [idx, List.map_cons, reT, Nat.sub_self, List.getElem?_cons_zero, Option.map_some, Option.getD_some]
    have ih := idx_moved r (n + 1)
    conv => rhs; rw [← ih]
    congr 1
    have lo : ∀ (l : List Tok) (m : Nat), ∀ t ∈ idx m l, m ≤ t.at' := by
      intro l
      induction l with
      | nil => intro m t h; cases h
      | cons u q ih => intro m t h; simp only [idx, List.mem_cons] at h; rcases h with rfl | h; exact Nat.le_refl _; exact Nat.le_of_succ_le (ih _ _ h)
    refine List.map_congr_left fun u hu => ?_
    have := lo _ _ _ hu
    simp only [reT]
    rw [show u.at' - n = (u.at' - (n + 1)) + 1 by omega]
    rfl
theorem idx_three : ∀ (l m : List Tok) (n : Nat), l.map (fun t => (t.kind, t.text, t.num)) = m.map (fun t => (t.kind, t.text, t.num)) → idx n l = idx n m
  | [], [], _, _ => rfl
  | [], _ :: _, _, h => by cases h
  | _ :: _, [], _, h => by cases h
  | t :: r, u :: q, n, h => by
    simp only [List.map_cons, List.cons.injEq, Prod.mk.injEq] at h
    obtain ⟨⟨a, b, c⟩, h⟩ := h
    simp only [idx, a, b, c, idx_three r q (n + 1) h]

end Go.Proofs.YtcbdolflgpmaoaaDoor


/- Layer 6, made ready: which trees are the same, how many expressions, how deep: of no program. -/
namespace Go.Proofs.YtcbdolflgpmaoaaDoor

def sameAtm : List Atm → List Atm → Bool
  | [], [] => true
  | x :: r, y :: q => (decide (x.name = y.name) && (decide (x.name ≠ []) || decide (x.num = y.num))) && sameAtm r q
  | _, _ => false
mutual
def sameE : E → E → Bool
  | .mk k _ n m ts bs ks as, y =>
    match y with
    | .mk k' _ n' m' ts' bs' ks' as' =>
      if k ≠ k' then false
      else if k = 1 ∨ k = 2 ∨ k = 3 then decide (n = n') && sameAtm ts ts'
      else if k = 4 then decide (m = m')
      else if k = 5 then sameBs bs bs' && sameK ks ks'
      else if k = 6 then sameK ks ks' && sameAs as as'
      else true
def sameB : B → B → Bool
  | .mk n _ as x, y =>
    match y with
    | .mk n' _ as' x' => decide (n = n') && decide (as = as') && sameE x x'
def sameA : A → A → Bool
  | .mk k _ n m vs x, y =>
    match y with
    | .mk k' _ n' m' vs' x' => decide (k = k') && sameE x x' && (decide (¬ (k = 1 ∨ k = 3)) || decide (n = n')) && (decide (k ≠ 2) || decide (m = m')) && (decide (k ≠ 1) || decide (vs = vs'))
def sameK : List E → List E → Bool
  | [], y => y.isEmpty
  | x :: _, y =>
    match y with
    | [] => false
    | x' :: _ => sameE x x'
def sameBs : List B → List B → Bool
  | [], y => y.isEmpty
  | x :: r, y =>
    match y with
    | [] => false
    | x' :: q => sameB x x' && sameBs r q
def sameAs : List A → List A → Bool
  | [], y => y.isEmpty
  | x :: r, y =>
    match y with
    | [] => false
    | x' :: q => sameA x x' && sameAs r q
end
def sameDs : List D → List D → Bool
  | [], [] => true
  | x :: r, y :: q => (decide (x.name = y.name) && decide (x.arity = y.arity)) && sameDs r q
  | _, _ => false
def sameP (p q : Pg) : Bool := sameDs p.datas q.datas && sameBs p.binds q.binds

mutual
/-- how many expressions one is, with those in it (of an alternative of no kind none) -/
def cntE : E → Nat
  | .mk k _ _ _ _ bs ks as => 1 + (if k = 5 then cntBs bs else 0) + (if k = 5 ∨ k = 6 then cntK ks else 0) + (if k = 6 then cntAs as else 0)
def cntB : B → Nat
  | .mk _ _ _ x => cntE x
def cntA : A → Nat
  | .mk k _ _ _ _ x => if k = 1 ∨ k = 2 ∨ k = 3 then cntE x else 0
def cntK : List E → Nat
  | [] => 0
  | x :: _ => cntE x
def cntBs : List B → Nat
  | [] => 0
  | x :: r => cntB x + cntBs r
def cntAs : List A → Nat
  | [] => 0
  | x :: r => cntA x + cntAs r
end
mutual
/-- how deep one is -/
def dpE : E → Nat
  | .mk k _ _ _ _ bs ks as => 1 + max (if k = 5 then dpBs bs else 0) (max (if k = 5 ∨ k = 6 then dpK ks else 0) (if k = 6 then dpAs as else 0))
def dpB : B → Nat
  | .mk _ _ _ x => dpE x
def dpA : A → Nat
  | .mk _ _ _ _ _ x => dpE x
def dpK : List E → Nat
  | [] => 0
  | x :: _ => dpE x
def dpBs : List B → Nat
  | [] => 0
  | x :: r => max (dpB x) (dpBs r)
def dpAs : List A → Nat
  | [] => 0
  | x :: r => max (dpA x) (dpAs r)
end
def sizeP (p : Pg) : Nat := cntBs p.binds

theorem sameAtm_self : ∀ l, sameAtm l l = true
  | [] => rfl
  | x :: r => by simp [sameAtm, sameAtm_self r]
mutual
theorem sameE_moved (g h : Nat → Nat) : ∀ x : E, sameE (reE g x) (reE h x) = true
  | .mk k a n m ts bs ks as => by
    have h1 := sameBs_moved g h bs
    have h2 := sameK_moved g h ks
    have h3 := sameAs_moved g h as
    simp only [reE, sameE, h1, h2, h3, sameAtm_self]
    simp
theorem sameB_moved (g h : Nat → Nat) : ∀ x : B, sameB (reB g x) (reB h x) = true
  | .mk n a as x => by
    have h1 := sameE_moved g h x
    simp only [reB, sameB, h1]
    simp
theorem sameA_moved (g h : Nat → Nat) : ∀ x : A, sameA (reA g x) (reA h x) = true
  | .mk k a n m vs x => by
    have h1 := sameE_moved g h x
    simp only [reA, sameA, h1]
    simp
theorem sameK_moved (g h : Nat → Nat) : ∀ x : List E, sameK (reEs g x) (reEs h x) = true
  | [] => by simp [reEs, sameK]
  | x :: r => by
    have h1 := sameE_moved g h x
    simp only [reEs, sameK, h1]
theorem sameBs_moved (g h : Nat → Nat) : ∀ x : List B, sameBs (reBs g x) (reBs h x) = true
  | [] => by simp [reBs, sameBs]
  | x :: r => by
    have h1 := sameB_moved g h x
    have h2 := sameBs_moved g h r
    simp only [reBs, sameBs, h1, h2]
    rfl
theorem sameAs_moved (g h : Nat → Nat) : ∀ x : List A, sameAs (reAs g x) (reAs h x) = true
  | [] => by simp [reAs, sameAs]
  | x :: r => by
    have h1 := sameA_moved g h x
    have h2 := sameAs_moved g h r
    simp only [reAs, sameAs, h1, h2]
    rfl
end
mutual
theorem sameE_self : ∀ x : E, sameE x x = true
  | .mk k a n m ts bs ks as => by
    have h1 := sameBs_self bs
    have h2 := sameK_self ks
    have h3 := sameAs_self as
    simp only [sameE, h1, h2, h3, sameAtm_self]
    simp
theorem sameB_self : ∀ x : B, sameB x x = true
  | .mk n a as x => by
    have h1 := sameE_self x
    simp only [sameB, h1]
    simp
theorem sameA_self : ∀ x : A, sameA x x = true
  | .mk k a n m vs x => by
    have h1 := sameE_self x
    simp only [sameA, h1]
    simp
theorem sameK_self : ∀ x : List E, sameK x x = true
  | [] => by simp [sameK]
  | x :: r => by
    have h1 := sameE_self x
    simp only [sameK, h1]
theorem sameBs_self : ∀ x : List B, sameBs x x = true
  | [] => by simp [sameBs]
  | x :: r => by
    have h1 := sameB_self x
    have h2 := sameBs_self r
    simp only [sameBs, h1, h2]
    rfl
theorem sameAs_self : ∀ x : List A, sameAs x x = true
  | [] => by simp [sameAs]
  | x :: r => by
    have h1 := sameA_self x
    have h2 := sameAs_self r
    simp only [sameAs, h1, h2]
    rfl
end
theorem sameDs_moved (g h : Nat → Nat) : ∀ l : List D, sameDs (l.map (reD g)) (l.map (reD h)) = true
  | [] => rfl
  | x :: r => by simp [sameDs, reD, sameDs_moved g h r]
theorem sameDs_self : ∀ l : List D, sameDs l l = true
  | [] => rfl
  | x :: r => by simp [sameDs, sameDs_self r]
theorem sameP_self (p : Pg) : sameP p p = true := by simp [sameP, sameDs_self, sameBs_self]
theorem sameP_moved (g h : Nat → Nat) (p : Pg) : sameP (rePg g p) (rePg h p) = true := by
  simp only [sameP, rePg, sameDs_moved]
  rw [← reBs_map, ← reBs_map, sameBs_moved]
  rfl
theorem sameBs_app : ∀ a b c d : List B, sameBs a b = true → sameBs c d = true → sameBs (a ++ c) (b ++ d) = true
  | [], [], _, _, _, h => h
  | [], _ :: _, _, _, h, _ => by simp [sameBs] at h
  | _ :: _, [], _, _, h, _ => by simp [sameBs] at h
  | x :: a, y :: b, c, d, h, h' => by
    simp only [sameBs, List.cons_append, Bool.and_eq_true] at h ⊢
    exact ⟨h.1, sameBs_app a b c d h.2 h'⟩
theorem sameDs_app : ∀ a b c d : List D, sameDs a b = true → sameDs c d = true → sameDs (a ++ c) (b ++ d) = true
  | [], [], _, _, _, h => h
  | [], _ :: _, _, _, h, _ => by simp [sameDs] at h
  | _ :: _, [], _, _, h, _ => by simp [sameDs] at h
  | x :: a, y :: b, c, d, h, h' => by
    simp only [sameDs, List.cons_append, Bool.and_eq_true] at h ⊢
    exact ⟨h.1, sameDs_app a b c d h.2 h'⟩
theorem cntBs_app : ∀ a b : List B, cntBs (a ++ b) = cntBs a + cntBs b
  | [], b => by simp [cntBs]
  | x :: a, b => by simp only [List.cons_append, cntBs, cntBs_app a b]; omega
mutual
theorem cntE_moved (g : Nat → Nat) : ∀ x : E, cntE (reE g x) = cntE x
  | .mk k a n m ts bs ks as => by
    have h1 := cntBs_moved g bs
    have h2 := cntK_moved g ks
    have h3 := cntAs_moved g as
    simp only [reE, cntE, h1, h2, h3]
theorem cntB_moved (g : Nat → Nat) : ∀ x : B, cntB (reB g x) = cntB x
  | .mk n a as x => by simp only [reB, cntB, cntE_moved g x]
theorem cntA_moved (g : Nat → Nat) : ∀ x : A, cntA (reA g x) = cntA x
  | .mk k a n m vs x => by simp only [reA, cntA, cntE_moved g x]
theorem cntK_moved (g : Nat → Nat) : ∀ x : List E, cntK (reEs g x) = cntK x
  | [] => by simp [reEs, cntK]
  | x :: r => by simp only [reEs, cntK, cntE_moved g x]
theorem cntBs_moved (g : Nat → Nat) : ∀ x : List B, cntBs (reBs g x) = cntBs x
  | [] => by simp [reBs, cntBs]
  | x :: r => by simp only [reBs, cntBs, cntB_moved g x, cntBs_moved g r]
theorem cntAs_moved (g : Nat → Nat) : ∀ x : List A, cntAs (reAs g x) = cntAs x
  | [] => by simp [reAs, cntAs]
  | x :: r => by simp only [reAs, cntAs, cntA_moved g x, cntAs_moved g r]
end

end Go.Proofs.YtcbdolflgpmaoaaDoor


/- Layer 6, made ready: where a fault is, of tokens that have moved: of no program. -/
namespace Go.Proofs.YtcbdolflgpmaoaaDoor

/-- what is left, well or with a fault, is an end of what there was -/
def restT {α : Type} : PR α → List Tok
  | .ok (_, r) => r
  | .error (_, r) => r
def Sfx {α : Type} (p : List Tok → PR α) : Prop := ∀ l, restT (p l) <:+ l
theorem sfx_and {α β : Type} {l : List Tok} {p : PR α} {f : α → List Tok → PR β} (hp : restT p <:+ l) (hf : ∀ a, Sfx (f a)) : restT (andT p f) <:+ l := by
  rcases p with ⟨e, r⟩ | ⟨a, r⟩
  · exact hp
  · exact (hf a r).trans hp
theorem sfx_ok {α β : Type} (a : α → List Tok → β) (x : α) : Sfx (fun l => (.ok (a x l, l) : PR β)) := fun l => List.suffix_refl l
theorem kind_sfx (k : Int) : Sfx (pKind k) := fun l => by
  cases l with
  | nil => exact List.suffix_refl _
  | cons t r =>
    simp only [pKind]
    split
    · exact List.suffix_cons t r
    · exact List.suffix_refl _
theorem want_sfx (s : List UInt8) : Sfx (pWant s) := fun l => by
  unfold pWant
  split
  · exact List.tail_suffix l
  · exact List.suffix_refl _
theorem names_sfx : ∀ l, (pNames l).2 <:+ l
  | [] => List.suffix_refl _
  | t :: r => by
    unfold pNames
    split
    · exact (names_sfx r).trans (List.suffix_cons t r)
    · exact List.suffix_refl _
theorem atoms_sfx : ∀ l, (pAtoms l).2 <:+ l
  | [] => List.suffix_refl _
  | t :: r => by
    unfold pAtoms
    split
    · exact (atoms_sfx r).trans (List.suffix_cons t r)
    · exact List.suffix_refl _
theorem args_sfx : Sfx pArgs := fun l => by
  unfold pArgs
  split
  · refine sfx_and ((kind_sfx 1 _).trans (List.tail_suffix l)) fun t r => ?_
    exact sfx_and ((want_sfx _ _).trans (names_sfx r)) fun _ r => List.suffix_refl _
  · exact List.suffix_refl _
theorem bind_sfx {ex : List Tok → PR E} (he : Sfx ex) : Sfx (pBind ex) := fun l => by
  unfold pBind
  refine sfx_and (kind_sfx 1 l) fun t r => ?_
  refine sfx_and (want_sfx _ r) fun _ r => ?_
  refine sfx_and (args_sfx r) fun as r => ?_
  refine sfx_and (he r) fun x r => ?_
  exact sfx_and (want_sfx _ r) fun _ r => List.suffix_refl _
theorem head_sfx : Sfx pHead := fun l => by
  cases l with
  | nil => exact List.suffix_refl _
  | cons t r =>
    simp only [pHead]
    split
    · exact (names_sfx r).trans (List.suffix_cons t r)
    · split
      · exact List.suffix_cons t r
      · split
        · exact List.suffix_cons t r
        · exact List.suffix_refl _
theorem alt_sfx {ex : List Tok → PR E} (he : Sfx ex) : Sfx (pAlt ex) := fun l => by
  unfold pAlt
  refine sfx_and (head_sfx l) fun t r => ?_
  refine sfx_and (want_sfx _ r) fun _ r => ?_
  refine sfx_and (he r) fun x r => ?_
  exact sfx_and (want_sfx _ r) fun _ r => List.suffix_refl _
theorem manyF_sfx {α : Type} {one : List Tok → PR α} (ho : Sfx one) : ∀ n, Sfx (manyF one n)
  | 0 => fun l => List.suffix_refl _
  | n + 1 => fun l => by
    unfold manyF
    refine sfx_and (ho l) fun x r => ?_
    split
    · exact List.tail_suffix r
    · exact sfx_and (manyF_sfx ho n r) fun xs r => List.suffix_refl _
theorem exp_sfx : ∀ d, Sfx (pExp d)
  | 0 => fun l => by cases l <;> exact List.suffix_refl _
  | d + 1 => fun l => by
    have ih := exp_sfx d
    cases l with
    | nil => exact List.suffix_refl _
    | cons t r =>
      simp only [pExp]
      split
      · exact List.suffix_cons t r
      · split
        · exact (atoms_sfx r).trans (List.suffix_cons t r)
        · split
          · refine sfx_and ((want_sfx _ r).trans (List.suffix_cons t r)) fun _ r => ?_
            refine sfx_and (manyF_sfx (bind_sfx ih) _ r) fun bs r => ?_
            refine sfx_and (want_sfx _ r) fun _ r => ?_
            exact sfx_and (ih r) fun x r => List.suffix_refl _
          · split
            · refine sfx_and ((ih r).trans (List.suffix_cons t r)) fun x r => ?_
              refine sfx_and (want_sfx _ r) fun _ r => ?_
              refine sfx_and (want_sfx _ r) fun _ r => ?_
              exact sfx_and (manyF_sfx (alt_sfx ih) _ r) fun as r => List.suffix_refl _
            · split
              · refine sfx_and ((ih r).trans (List.suffix_cons t r)) fun x r => ?_
                exact sfx_and (want_sfx _ r) fun _ r => List.suffix_refl _
              · exact List.suffix_refl _
theorem data_sfx : Sfx pData := fun l => by
  unfold pData
  refine sfx_and (kind_sfx _ l) fun c r => ?_
  refine sfx_and (kind_sfx _ r) fun n r => ?_
  exact sfx_and (want_sfx _ r) fun _ r => List.suffix_refl _
theorem datas_sfx : ∀ n, Sfx (pDatas n)
  | 0 => fun l => List.suffix_refl _
  | n + 1 => fun l => by
    unfold pDatas
    split
    · refine sfx_and ((data_sfx _).trans (List.tail_suffix l)) fun d r => ?_
      exact sfx_and (datas_sfx n r) fun ds r => List.suffix_refl _
    · exact List.suffix_refl _
theorem binds_sfx : ∀ n, Sfx (pBinds n)
  | 0 => fun l => by cases l <;> exact List.suffix_refl _
  | n + 1 => fun l => by
    cases l with
    | nil => exact List.suffix_refl _
    | cons t r =>
      simp only [pBinds]
      refine sfx_and (bind_sfx (exp_sfx 60) _) fun d r => ?_
      exact sfx_and (binds_sfx n r) fun ds r => List.suffix_refl _
theorem prog_sfx : Sfx pProg := fun l => by
  unfold pProg
  refine sfx_and (datas_sfx _ l) fun ds r => ?_
  exact sfx_and (binds_sfx _ r) fun bs r => List.suffix_refl _

def kindsT (l : List Tok) : List (Int × List UInt8 × Int) := l.map fun t => (t.kind, t.text, t.num)
/-- Tokens that are the same but for their places: the same tree but for the places, or the same fault at the same token. -/
theorem prog_blanks {l m : List Tok} (h : kindsT l = kindsT m) :
    (∃ p q r s, pProg l = .ok (p, r) ∧ pProg m = .ok (q, s) ∧ sameP p q = true) ∨
    ∃ e n, n ≤ l.length ∧ pProg l = .error (e, l.drop n) ∧ pProg m = .error (e, m.drop n) := by
  have hl := idx_moved l 0
  have hm := idx_moved m 0
  have hi : idx 0 l = idx 0 m := idx_three l m 0 h
  have Pl := prog_moved (fun i => ((l[i - 0]?).map (·.at')).getD 0) (idx 0 l)
  have Pm := prog_moved (fun i => ((m[i - 0]?).map (·.at')).getD 0) (idx 0 m)
  rw [hl] at Pl
  rw [hm, ← hi] at Pm
  have S := prog_sfx (idx 0 l)
  rcases e : pProg (idx 0 l) with ⟨er, r⟩ | ⟨p, r⟩
  · rw [e] at Pl Pm S
    refine .inr ⟨er, (idx 0 l).length - r.length, ?_, ?_, ?_⟩
    · have : (idx 0 l).length = l.length := by conv => rhs; rw [← hl]
                                               rw [List.length_map]
      omega
    · rw [Pl]
      have := List.suffix_iff_eq_drop.mp S
      simp only [restT] at this
      simp only [moved]
      congr 2
      conv => lhs; rw [this]
      conv => rhs; rw [← hl]
      rw [List.map_drop, hl]
    · rw [Pm]
      have := List.suffix_iff_eq_drop.mp S
      simp only [restT] at this
      simp only [moved]
      congr 2
      conv => lhs; rw [this]
      rw [List.map_drop, hi, hm]
  · rw [e] at Pl Pm
    exact .inl ⟨_, _, _, _, Pl, Pm, sameP_moved _ _ p⟩

end Go.Proofs.YtcbdolflgpmaoaaDoor


/- Layer 7 (show): which tokens a program has, there and back: of no program. -/
namespace Go.Proofs.YtcbdolflgpmaoaaDoor
set_option linter.unusedVariables false
set_option linter.unusedSimpArgs false

abbrev sgT (s : List UInt8) : ATok := ⟨5, s, 0, 0⟩
abbrev wdT (s : List UInt8) : ATok := ⟨6, s, 0, 0⟩
abbrev nuT (n : Int) : ATok := ⟨4, [], n, 0⟩
abbrev naT (k : Int) (s : List UInt8) : ATok := ⟨k, s, 0, 0⟩
abbrev OT := Except Int (List ATok)
def seqO (a b : OT) : OT :=
  match a with
  | .ok x => (match b with
    | .ok y => .ok (x ++ y)
    | .error e => .error e)
  | .error e => .error e
def oName (k : Int) (s : List UInt8) : OT := if wordB s k then .ok [naT k s] else .error 2
def oNames : List (List UInt8) → OT
  | [] => .ok []
  | s :: r => seqO (oName 1 s) (oNames r)
def oAtom (a : Atm) : OT := if a.name = [] then .ok [nuT a.num] else oName 1 a.name
def oAtoms : List Atm → OT
  | [] => .ok []
  | a :: r => seqO (oAtom a) (oAtoms r)
def oL {α : Type} (f : α → OT) : List α → OT
  | [] => .ok []
  | a :: r => seqO (f a) (oL f r)
def oData (d : D) : OT := seqO (.ok [wdT [100, 97, 116, 97]]) (seqO (oName 2 d.name) (.ok [nuT d.arity, sgT [59]]))
def oArgs (as : List (List UInt8)) : OT := if as = [] then .ok [] else seqO (.ok [sgT [92]]) (seqO (oNames as) (.ok [sgT [45, 62]]))
def oB (ex : E → OT) : B → OT
  | .mk n _ as x => seqO (oName 1 n) (seqO (.ok [sgT [61]]) (seqO (oArgs as) (seqO (ex x) (.ok [sgT [59]]))))
def oHead (k : Int) (n : List UInt8) (m : Int) (vs : List (List UInt8)) : OT :=
  if k = 1 then seqO (oName 2 n) (oNames vs) else if k = 2 then .ok [nuT m] else if k = 3 then oName 1 n else .error 2
def oA (ex : E → OT) : A → OT
  | .mk k _ n m vs x => seqO (oHead k n m vs) (seqO (.ok [sgT [45, 62]]) (seqO (ex x) (.ok [sgT [59]])))
def oK (ex : E → OT) : List E → OT
  | [] => .error 2
  | x :: _ => ex x
/-- an expression's tokens; the number: how much deeper it may go -/
def oE : Nat → E → OT
  | 0, _ => .error 24
  | d + 1, .mk k _ n m ts bs ks as =>
    if k = 1 ∨ k = 2 ∨ k = 3 then seqO (oName k n) (oAtoms ts)
    else if k = 4 then .ok [nuT m]
    else if k = 5 then (if bs = [] ∨ ks = [] then .error 2 else seqO (.ok [wdT [108, 101, 116], sgT [123]]) (seqO (oL (oB (oE d)) bs) (seqO (.ok [sgT [125], wdT [105, 110]]) (oK (oE d) ks))))
    else if k = 6 then (if ks = [] ∨ as = [] then .error 2 else seqO (.ok [wdT [99, 97, 115, 101]]) (seqO (oK (oE d) ks) (seqO (.ok [wdT [111, 102], sgT [123]]) (seqO (oL (oA (oE d)) as) (.ok [sgT [125]])))))
    else .error 2
/-- the tokens of each data and each bind -/
def oLs {α : Type} (f : α → OT) : List α → Except Int (List (List ATok))
  | [] => .ok []
  | a :: r =>
    match f a with
    | .ok x => (match oLs f r with
      | .ok y => .ok (x :: y)
      | .error e => .error e)
    | .error e => .error e
def oP (p : Pg) : OT := seqO (oL oData p.datas) (oL (oB (oE 60)) p.binds)

theorem seqO_ok {a b : OT} {l : List ATok} (h : seqO a b = .ok l) : ∃ x y, a = .ok x ∧ b = .ok y ∧ l = x ++ y := by
  rcases a with e | x
  · cases h
  · rcases b with e | y
    · cases h
    · cases h; exact ⟨x, y, rfl, rfl, rfl⟩
theorem oName_ok {k : Int} {s : List UInt8} {l : List ATok} (h : oName k s = .ok l) : l = [naT k s] ∧ wordB s k = true := by
  unfold oName at h
  split at h
  · cases h; exact ⟨rfl, by assumption⟩
  · cases h
theorem word_kind {k : Int} {s : List UInt8} (h : wordB s k = true) : (k = 1 ∨ k = 2 ∨ k = 3) ∧ justT s k = true := by
  simp only [wordB, Bool.and_eq_true, Bool.or_eq_true, decide_eq_true_eq] at h
  exact h
theorem word_ne {k : Int} {s : List UInt8} (h : wordB s k = true) : s ≠ [] := fun e => by
  subst e
  have := (word_kind h).2
  exact absurd this (by simp [justT, readT, one])

/-! ## tokens that were read, held against tokens that are told -/
def Like (l : List Tok) (ts : List ATok) : Prop := l.map three = ts.map nameT
theorem like_app {l : List Tok} {a b : List ATok} (h : Like l (a ++ b)) : ∃ x y, l = x ++ y ∧ Like x a ∧ Like y b := by
  unfold Like at h ⊢
  rw [List.map_append] at h
  have := List.map_eq_append_iff.1 h
  obtain ⟨x, y, e1, e2, e3⟩ := this
  exact ⟨x, y, e1, e2, e3⟩
theorem like_nil {l : List Tok} (h : Like l []) : l = [] := by
  unfold Like at h
  simpa using h
theorem like_cons {l : List Tok} {a : ATok} {r : List ATok} (h : Like l (a :: r)) : ∃ t q, l = t :: q ∧ three t = nameT a ∧ Like q r := by
  cases l with
  | nil => simp [Like] at h
  | cons t q =>
    simp only [Like, List.map_cons, List.cons.injEq] at h
    exact ⟨t, q, rfl, h.1, h.2⟩
theorem like_one {l : List Tok} {a : ATok} (h : Like l [a]) : ∃ t, l = [t] ∧ three t = nameT a := by
  obtain ⟨t, q, rfl, e, h⟩ := like_cons h
  rw [like_nil h]
  exact ⟨t, rfl, e⟩
theorem three_na {t : Tok} {k : Int} {s : List UInt8} (hk : k ≠ 4) (h : three t = nameT (naT k s)) : t.kind = k ∧ t.text = s ∧ t.num = 0 := by
  simp only [nameT, if_neg hk, three, T3.mk.injEq] at h
  exact h
theorem three_nu {t : Tok} {n : Int} (h : three t = nameT (nuT n)) : t.kind = 4 ∧ t.text = [] ∧ t.num = n := by
  simp only [nameT, if_pos, three, T3.mk.injEq] at h
  exact h
/-- what comes behind is no atom -/
def stop : List Tok → Prop
  | [] => True
  | t :: _ => t.kind ≠ 1 ∧ t.kind ≠ 4
theorem isS_mark {t : Tok} {s : List UInt8} {k : Int} (hk : k = 5 ∨ k = 6) (h : three t = nameT (naT k s)) (r : List Tok) : isS s (t :: r) = true ∧ stop (t :: r) := by
  obtain ⟨a, b, _⟩ := three_na (by omega) h
  rcases hk with rfl | rfl <;> simp [isS, stop, a, b]
theorem want_mark {t : Tok} {s : List UInt8} {k : Int} (hk : k = 5 ∨ k = 6) (h : three t = nameT (naT k s)) (r : List Tok) : pWant s (t :: r) = .ok ((), r) := by
  unfold pWant
  rw [(isS_mark hk h r).1]
  rfl
theorem kind_na {t : Tok} {s : List UInt8} {k : Int} (hk : k ≠ 4) (h : three t = nameT (naT k s)) (r : List Tok) : pKind k (t :: r) = .ok (t, r) := by
  simp [pKind, (three_na hk h).1]

theorem back_names : ∀ (ns : List (List UInt8)) (ts : List ATok), oNames ns = .ok ts → ∀ (l R : List Tok), Like l ts → stop R → pNames (l ++ R) = (ns, R)
  | [], ts, h, l, R, hl, hR => by
    cases h
    rw [like_nil hl, List.nil_append]
    cases R with
    | nil => rfl
    | cons t r => simp [pNames, hR.1]
  | s :: r, ts, h, l, R, hl, hR => by
    obtain ⟨x, y, h1, h2, rfl⟩ := seqO_ok h
    obtain ⟨rfl, hw⟩ := oName_ok h1
    obtain ⟨t, q, rfl, e, hq⟩ := like_cons hl
    obtain ⟨a, b, _⟩ := three_na (by decide) e
    have ih := back_names r y h2 q R hq hR
    simp [pNames, a, b, ih]
theorem back_atoms : ∀ (as : List Atm) (ts : List ATok), oAtoms as = .ok ts → ∀ (l R : List Tok), Like l ts → stop R → ∃ bs, pAtoms (l ++ R) = (bs, R) ∧ sameAtm as bs = true
  | [], ts, h, l, R, hl, hR => by
    cases h
    rw [like_nil hl, List.nil_append]
    refine ⟨[], ?_, rfl⟩
    cases R with
    | nil => rfl
    | cons t r => simp [pAtoms, hR.1, hR.2]
  | a :: r, ts, h, l, R, hl, hR => by
    obtain ⟨x, y, h1, h2, rfl⟩ := seqO_ok h
    unfold oAtom at h1
    split at h1
    · rename_i hn
      cases h1
      obtain ⟨t, q, rfl, e, hq⟩ := like_cons hl
      obtain ⟨a1, b1, c1⟩ := three_nu e
      obtain ⟨bs, ih, hs⟩ := back_atoms r y h2 q R hq hR
      exact ⟨⟨t.text, t.num⟩ :: bs, by simp [pAtoms, a1, ih], by simp [sameAtm, hn, b1, c1, hs]⟩
    · rename_i hn
      obtain ⟨rfl, hw⟩ := oName_ok h1
      obtain ⟨t, q, rfl, e, hq⟩ := like_cons hl
      obtain ⟨a1, b1, c1⟩ := three_na (by decide) e
      obtain ⟨bs, ih, hs⟩ := back_atoms r y h2 q R hq hR
      exact ⟨⟨t.text, t.num⟩ :: bs, by simp [pAtoms, a1, ih], by simp [sameAtm, hn, b1, hs]⟩
/-- there and back, of a part -/
def Back {α : Type} (o : α → OT) (p : List Tok → PR α) (same : α → α → Bool) : Prop :=
  ∀ x ts, o x = .ok ts → ∀ (l R : List Tok), Like l ts → stop R → ∃ y, p (l ++ R) = .ok (y, R) ∧ same x y = true
/-- .. whatever comes behind -/
def BackW {α : Type} (o : α → OT) (p : List Tok → PR α) (same : α → α → Bool) : Prop :=
  ∀ x ts, o x = .ok ts → ∀ (l R : List Tok), Like l ts → ∃ y, p (l ++ R) = .ok (y, R) ∧ same x y = true
theorem back_args (as : List (List UInt8)) (ts : List ATok) (h : oArgs as = .ok ts) (l R : List Tok) (hl : Like l ts) (hR : isS [92] R = false) : pArgs (l ++ R) = .ok (as, R) := by
  unfold oArgs at h
  split at h
  · rename_i e
    cases h
    rw [like_nil hl, List.nil_append, e]
    unfold pArgs
    rw [hR]
    rfl
  · rename_i e
    obtain ⟨x, y, h1, h2, rfl⟩ := seqO_ok h
    obtain ⟨z, u, h3, h4, rfl⟩ := seqO_ok h2
    cases h1; cases h4
    simp only [List.cons_append, List.nil_append] at hl
    obtain ⟨t, q, rfl, e1, hq⟩ := like_cons hl
    obtain ⟨m, q2, rfl, hm, hq2⟩ := like_app hq
    obtain ⟨t2, rfl, e2⟩ := like_one hq2
    cases as with
    | nil => exact absurd rfl e
    | cons s r =>
      obtain ⟨x3, y3, h5, h6, rfl⟩ := seqO_ok h3
      obtain ⟨rfl, hw⟩ := oName_ok h5
      obtain ⟨t3, q3, rfl, e3, hq3⟩ := like_cons hm
      have i1 := isS_mark (.inl rfl) e1 ((t3 :: q3) ++ [t2] ++ R)
      have i2 := isS_mark (.inl rfl) e2 R
      have nm := back_names r y3 h6 q3 (t2 :: R) hq3 i2.2
      have w2 := want_mark (.inl rfl) e2 R
      have k3 := kind_na (by decide) e3 (q3 ++ (t2 :: R))
      obtain ⟨_, b3, _⟩ := three_na (by decide) e3
      unfold pArgs
      simp only [List.cons_append, List.append_assoc, List.nil_append] at i1 ⊢
      rw [i1.1]
      simp only [if_true, List.tail_cons, k3, andT, nm, w2, b3]
/-- no argument's sign begins an expression -/
theorem head_E : ∀ d x ts, oE d x = .ok ts → ∃ a r, ts = a :: r ∧ (a.kind = 1 ∨ a.kind = 2 ∨ a.kind = 3 ∨ a.kind = 4 ∨ a.kind = 6)
  | 0, x, ts, h => by cases h
  | d + 1, .mk k a n m at' bs ks as, ts, h => by
    unfold oE at h
    split at h
    · rename_i hk
      obtain ⟨x, y, h1, h2, rfl⟩ := seqO_ok h
      obtain ⟨rfl, _⟩ := oName_ok h1
      exact ⟨_, _, rfl, by simp only; omega⟩
    · split at h
      · cases h; exact ⟨_, _, rfl, by simp⟩
      · split at h
        · split at h
          · cases h
          · obtain ⟨x, y, h1, h2, rfl⟩ := seqO_ok h
            cases h1
            exact ⟨_, _, rfl, by simp⟩
        · split at h
          · split at h
            · cases h
            · obtain ⟨x, y, h1, h2, rfl⟩ := seqO_ok h
              cases h1
              exact ⟨_, _, rfl, by simp⟩
          · cases h
theorem like_head {l : List Tok} {a : ATok} {r : List ATok} (h : Like l (a :: r)) (hk : a.kind = 1 ∨ a.kind = 2 ∨ a.kind = 3 ∨ a.kind = 4 ∨ a.kind = 6) (R : List Tok) : ∃ t q, l = t :: q ∧ t.kind = a.kind := by
  obtain ⟨t, q, rfl, e, _⟩ := like_cons h
  refine ⟨t, q, rfl, ?_⟩
  have e' := congrArg T3.kind e
  unfold nameT three at e'
  split at e'
  · rename_i z
    exact e'.trans z.symm
  · exact e'
theorem isS_other {t : Tok} {r : List Tok} (h : t.kind = 1 ∨ t.kind = 2 ∨ t.kind = 3 ∨ t.kind = 4) (s : List UInt8) : isS s (t :: r) = false := by
  rcases h with z | z | z | z <;> simp [isS, z]
theorem back_B (d : Nat) (hE : Back (oE d) (pExp d) sameE) : BackW (oB (oE d)) (pBind (pExp d)) sameB := fun x ts h l R hl => by
  obtain ⟨n, a, as, x⟩ := x
  unfold oB at h
  obtain ⟨x1, y1, h1, g1, rfl⟩ := seqO_ok h
  obtain ⟨x2, y2, h2, g2, rfl⟩ := seqO_ok g1
  obtain ⟨x3, y3, h3, g3, rfl⟩ := seqO_ok g2
  obtain ⟨x4, y4, h4, h5, rfl⟩ := seqO_ok g3
  clear h g1 g2 g3
  cases h2; cases h5
  obtain ⟨rfl, hw⟩ := oName_ok h1
  simp only [List.cons_append, List.nil_append] at hl
  obtain ⟨t1, q1, rfl, e1, hq⟩ := like_cons hl
  obtain ⟨t2, q2, rfl, e2, hq⟩ := like_cons hq
  obtain ⟨l3, q3, rfl, e3, hq⟩ := like_app hq
  obtain ⟨l4, q4, rfl, e4, hq⟩ := like_app hq
  obtain ⟨t5, rfl, e5⟩ := like_one hq
  have i5 := isS_mark (.inl rfl) e5 R
  obtain ⟨y, hy, hs⟩ := hE x x4 h4 l4 (t5 :: R) e4 i5.2
  have ha : isS [92] (l4 ++ (t5 :: R)) = false := by
    obtain ⟨a0, r0, rfl, k0⟩ := head_E d x x4 h4
    obtain ⟨t, q, rfl, e⟩ := like_head e4 k0 R
    rw [List.cons_append]
    rw [← e] at k0
    rcases k0 with z | z | z | z | z
    · exact isS_other (.inl z) _
    · exact isS_other (.inr (.inl z)) _
    · exact isS_other (.inr (.inr (.inl z))) _
    · exact isS_other (.inr (.inr (.inr z))) _
    · obtain ⟨t', q', e6, e7, _⟩ := like_cons e4
      cases e6
      have := three_na (k := 6) (by decide) (s := a0.text) (t := t) (by
        rw [e7]
        unfold nameT
        rw [e] at z
        simp [z])
      simp only [isS, this.1, this.2.1]
      have hx : ∀ d x ts, oE d x = .ok ts → ∀ a r, ts = a :: r → a.kind = 6 → a.text ≠ [92] := by
        intro d x ts h a r e hk
        cases d with
        | zero => cases h
        | succ d =>
          obtain ⟨k, a', n, m, at', bs, ks, as⟩ := x
          unfold oE at h
          split at h
          · rename_i hkk
            obtain ⟨x, y, h1, h2, rfl⟩ := seqO_ok h
            obtain ⟨rfl, _⟩ := oName_ok h1
            cases e
            simp only at hk
            omega
          · split at h
            · cases h; cases e; simp at hk
            · split at h
              · split at h
                · cases h
                · obtain ⟨x, y, h1, h2, rfl⟩ := seqO_ok h
                  cases h1; cases e; simp
              · split at h
                · split at h
                  · cases h
                  · obtain ⟨x, y, h1, h2, rfl⟩ := seqO_ok h
                    cases h1; cases e; simp
                · cases h
      have hne := hx d x _ h4 a0 r0 rfl (by rw [← e]; exact z)
      simp [hne]
  have hargs := back_args as x3 h3 l3 (l4 ++ (t5 :: R)) e3 ha
  have k1 := kind_na (by decide) e1 (t2 :: (l3 ++ (l4 ++ (t5 :: R))))
  have w2 := want_mark (.inl rfl) e2 (l3 ++ (l4 ++ (t5 :: R)))
  have w5 := want_mark (.inl rfl) e5 R
  obtain ⟨_, b1, _⟩ := three_na (by decide) e1
  refine ⟨.mk n t1.at' as y, ?_, by simp [sameB, hs]⟩
  unfold pBind
  simp only [List.cons_append, List.append_assoc, List.nil_append, k1, w2, hargs, hy, w5, andT, b1]
theorem back_A (d : Nat) (hE : Back (oE d) (pExp d) sameE) : BackW (oA (oE d)) (pAlt (pExp d)) sameA := fun x ts h l R hl => by
  obtain ⟨k, a, n, m, vs, x⟩ := x
  unfold oA at h
  obtain ⟨x1, y1, h1, g1, rfl⟩ := seqO_ok h
  obtain ⟨x2, y2, h2, g2, rfl⟩ := seqO_ok g1
  obtain ⟨x4, y4, h4, h5, rfl⟩ := seqO_ok g2
  clear h g1 g2
  cases h2; cases h5
  simp only [List.cons_append, List.nil_append] at hl
  obtain ⟨l1, q1, rfl, e1, hq⟩ := like_app hl
  obtain ⟨t2, q2, rfl, e2, hq⟩ := like_cons hq
  obtain ⟨l4, q4, rfl, e4, hq⟩ := like_app hq
  obtain ⟨t5, rfl, e5⟩ := like_one hq
  have i5 := isS_mark (.inl rfl) e5 R
  have i2 := isS_mark (.inl rfl) e2 (l4 ++ (t5 :: R))
  obtain ⟨y, hy, hs⟩ := hE x x4 h4 l4 (t5 :: R) e4 i5.2
  have w2 := want_mark (.inl rfl) e2 (l4 ++ (t5 :: R))
  have w5 := want_mark (.inl rfl) e5 R
  have H : ∃ z : Int × Int × List UInt8 × Int × List (List UInt8), pHead (l1 ++ (t2 :: (l4 ++ (t5 :: R)))) = .ok (z, t2 :: (l4 ++ (t5 :: R))) ∧ sameA (.mk k a n m vs x) (.mk z.1 z.2.1 z.2.2.1 z.2.2.2.1 z.2.2.2.2 y) = true := by
    unfold oHead at h1
    split at h1
    · rename_i hk
      obtain ⟨x6, y6, h6, h7, rfl⟩ := seqO_ok h1
      obtain ⟨rfl, hw⟩ := oName_ok h6
      obtain ⟨t6, q6, rfl, e6, hq6⟩ := like_cons e1
      obtain ⟨a6, b6, _⟩ := three_na (by decide) e6
      have nm := back_names vs y6 h7 q6 (t2 :: (l4 ++ (t5 :: R))) hq6 i2.2
      refine ⟨(1, t6.at', t6.text, 0, vs), by simp [pHead, a6, nm], by simp [sameA, hs, hk, b6]⟩
    · split at h1
      · rename_i hk
        cases h1
        obtain ⟨t6, rfl, e6⟩ := like_one e1
        obtain ⟨a6, b6, c6⟩ := three_nu e6
        exact ⟨(2, t6.at', [], t6.num, []), by simp [pHead, a6], by simp [sameA, hs, hk, c6]⟩
      · split at h1
        · rename_i hk
          obtain ⟨rfl, hw⟩ := oName_ok h1
          obtain ⟨t6, rfl, e6⟩ := like_one e1
          obtain ⟨a6, b6, c6⟩ := three_na (by decide) e6
          exact ⟨(3, t6.at', t6.text, 0, []), by simp [pHead, a6], by simp [sameA, hs, hk, b6]⟩
        · cases h1
  obtain ⟨z, hz, hsz⟩ := H
  refine ⟨_, ?_, hsz⟩
  unfold pAlt
  simp only [List.cons_append, List.append_assoc, List.nil_append, hz, w2, hy, w5, andT]
theorem isS_not_brace {t : Tok} {r : List Tok} (h : t.kind = 1 ∨ t.kind = 2 ∨ t.kind = 4) : isS [125] (t :: r) = false := isS_other (by omega) _
/-- one or more, and the brace behind them -/
theorem back_many {α : Type} {o : α → OT} {one : List Tok → PR α} {same : α → α → Bool} (hAny : BackW o one same) (he : Eats one) (hh : ∀ x ts, o x = .ok ts → ∃ a r, ts = a :: r ∧ (a.kind = 1 ∨ a.kind = 2 ∨ a.kind = 4)) (sameL : List α → List α → Bool) (h0 : sameL [] [] = true) (hc : ∀ a b r q, same a b = true → sameL r q = true → sameL (a :: r) (b :: q) = true) :
    ∀ (xs : List α) (ts : List ATok), xs ≠ [] → oL o xs = .ok ts → ∀ (l : List Tok) (t : Tok) (R : List Tok), Like l ts → isS [125] (t :: R) = true → ∃ ys, many one (l ++ (t :: R)) = .ok (ys, R) ∧ sameL xs ys = true
  | [], _, h, _, _, _, _, _, _ => absurd rfl h
  | x :: r, ts, _, h, l, t, R, hl, ht => by
    obtain ⟨x1, y1, h1, h2, rfl⟩ := seqO_ok h
    obtain ⟨l1, l2, rfl, e1, e2⟩ := like_app hl
    rw [many_step he, List.append_assoc]
    obtain ⟨y, hy, hs⟩ := hAny x x1 h1 l1 (l2 ++ (t :: R)) e1
    rw [hy]
    simp only [andT]
    cases r with
    | nil =>
      cases h2
      rw [like_nil e2, List.nil_append, ht]
      exact ⟨[y], rfl, hc _ _ _ _ hs h0⟩
    | cons x' r' =>
      obtain ⟨x3, y3, h3, h4, rfl⟩ := seqO_ok h2
      obtain ⟨a0, r0, rfl, k0⟩ := hh x' x3 h3
      have hb : isS [125] (l2 ++ (t :: R)) = false := by
        obtain ⟨t0, q0, rfl, e0⟩ := like_head (r := r0 ++ y3) e2 (by omega) R
        rw [List.cons_append]
        exact isS_not_brace (by rw [e0]; exact k0)
      rw [hb]
      obtain ⟨ys, hys, hss⟩ := back_many hAny he hh sameL h0 hc (x' :: r') _ (by simp) h2 l2 t R e2 ht
      rw [hys]
      exact ⟨y :: ys, rfl, hc _ _ _ _ hs hss⟩
theorem head_B (ex : E → OT) : ∀ x ts, oB ex x = .ok ts → ∃ a r, ts = a :: r ∧ (a.kind = 1 ∨ a.kind = 2 ∨ a.kind = 4)
  | .mk n a as x, ts, h => by
    unfold oB at h
    obtain ⟨x1, y1, h1, g1, rfl⟩ := seqO_ok h
    obtain ⟨rfl, hw⟩ := oName_ok h1
    exact ⟨_, _, rfl, by simp⟩
theorem head_A (ex : E → OT) : ∀ x ts, oA ex x = .ok ts → ∃ a r, ts = a :: r ∧ (a.kind = 1 ∨ a.kind = 2 ∨ a.kind = 4)
  | .mk k a n m vs x, ts, h => by
    unfold oA at h
    obtain ⟨x1, y1, h1, g1, rfl⟩ := seqO_ok h
    unfold oHead at h1
    split at h1
    · obtain ⟨x6, y6, h6, h7, rfl⟩ := seqO_ok h1
      obtain ⟨rfl, hw⟩ := oName_ok h6
      exact ⟨_, _, rfl, by simp⟩
    · split at h1
      · cases h1; exact ⟨_, _, rfl, by simp⟩
      · split at h1
        · obtain ⟨rfl, hw⟩ := oName_ok h1
          exact ⟨_, _, rfl, by simp⟩
        · cases h1
theorem back_E : ∀ d, Back (oE d) (pExp d) sameE
  | 0 => fun x ts h => by cases h
  | d + 1 => fun x ts h l R hl hR => by
    have ih := back_E d
    obtain ⟨k, a, n, m, at', bs, ks, as⟩ := x
    unfold oE at h
    split at h
    · rename_i hk
      obtain ⟨x1, y1, h1, h2, rfl⟩ := seqO_ok h
      obtain ⟨rfl, hw⟩ := oName_ok h1
      obtain ⟨t, q, rfl, e, hq⟩ := like_cons hl
      obtain ⟨a1, b1, _⟩ := three_na (by omega) e
      obtain ⟨cs, hcs, hsm⟩ := back_atoms at' y1 h2 q R hq hR
      refine ⟨.mk k t.at' t.text 0 cs [] [] [], ?_, by simp [sameE, hk, b1, hsm]⟩
      rw [List.cons_append]
      unfold pExp
      rw [if_neg (by omega), if_pos (by rw [a1]; exact hk), hcs, a1]
    · split at h
      · rename_i _ hk
        cases h
        obtain ⟨t, rfl, e⟩ := like_one hl
        obtain ⟨a1, b1, c1⟩ := three_nu e
        refine ⟨.mk 4 t.at' [] t.num [] [] [] [], ?_, by simp [sameE, hk, c1]⟩
        rw [List.cons_append]
        unfold pExp
        rw [if_pos a1]
        rfl
      · split at h
        · rename_i n1 n2 hk
          split at h
          · cases h
          · rename_i hne
            obtain ⟨x1, y1, h1, g1, rfl⟩ := seqO_ok h
            obtain ⟨x2, y2, h2, g2, rfl⟩ := seqO_ok g1
            obtain ⟨x3, y3, h3, h4, rfl⟩ := seqO_ok g2
            clear h g1 g2
            cases h1; cases h3
            simp only [List.cons_append, List.nil_append] at hl
            obtain ⟨t1, q1, rfl, e1, hq⟩ := like_cons hl
            obtain ⟨t2, q2, rfl, e2, hq⟩ := like_cons hq
            obtain ⟨l3, q3, rfl, e3, hq⟩ := like_app hq
            obtain ⟨t4, q4, rfl, e4, hq⟩ := like_cons hq
            obtain ⟨t5, l6, rfl, e5, e6⟩ := like_cons hq
            cases ks with
            | nil => exact absurd (.inr rfl) hne
            | cons x ks =>
              obtain ⟨y, hy, hs⟩ := ih x y3 h4 l6 R e6 hR
              have i4 := (isS_mark (.inl rfl) e4 (t5 :: (l6 ++ R))).1
              obtain ⟨ys, hys, hss⟩ := back_many (back_B d ih) (bind_eats d) (head_B _) sameBs (by simp [sameBs]) (fun a b r q u v => by simp [sameBs, u, v]) bs x2 (fun z => hne (.inl z)) h2 l3 t4 (t5 :: (l6 ++ R)) e3 i4
              have i1 := (isS_mark (.inr rfl) e1 (t2 :: (l3 ++ (t4 :: (t5 :: (l6 ++ R)))))).1
              have w2 := want_mark (.inl rfl) e2 (l3 ++ (t4 :: (t5 :: (l6 ++ R))))
              have w5 := want_mark (.inr rfl) e5 (l6 ++ R)
              obtain ⟨k1, _, _⟩ := three_na (by decide) e1
              refine ⟨.mk 5 t1.at' [] 0 [] ys [y] [], ?_, by simp [sameE, sameK, hk, hs, hss]⟩
              simp only [List.cons_append, List.append_assoc, List.nil_append]
              unfold pExp
              rw [if_neg (by omega), if_neg (by omega), if_pos i1, w2]
              simp only [andT, hys, w5, hy]
        · split at h
          · rename_i n1 n2 n3 hk
            split at h
            · cases h
            · rename_i hne
              obtain ⟨x1, y1, h1, g1, rfl⟩ := seqO_ok h
              obtain ⟨x2, y2, h2, g2, rfl⟩ := seqO_ok g1
              obtain ⟨x3, y3, h3, g3, rfl⟩ := seqO_ok g2
              obtain ⟨x4, y4, h4, h5, rfl⟩ := seqO_ok g3
              clear h g1 g2 g3
              cases h1; cases h3; cases h5
              simp only [List.cons_append, List.nil_append] at hl
              obtain ⟨t1, q1, rfl, e1, hq⟩ := like_cons hl
              obtain ⟨l2, q2, rfl, e2, hq⟩ := like_app hq
              obtain ⟨t3, q3, rfl, e3, hq⟩ := like_cons hq
              obtain ⟨t4, q4, rfl, e4, hq⟩ := like_cons hq
              obtain ⟨l5, q5, rfl, e5, hq⟩ := like_app hq
              obtain ⟨t6, rfl, e6⟩ := like_one hq
              cases ks with
              | nil => exact absurd (.inl rfl) hne
              | cons x ks =>
                have i3 := isS_mark (.inr rfl) e3 (t4 :: (l5 ++ (t6 :: R)))
                obtain ⟨y, hy, hs⟩ := ih x x2 h2 l2 (t3 :: (t4 :: (l5 ++ (t6 :: R)))) e2 i3.2
                have i6 := (isS_mark (.inl rfl) e6 R).1
                obtain ⟨ys, hys, hss⟩ := back_many (back_A d ih) (alt_eats d) (head_A _) sameAs (by simp [sameAs]) (fun a b r q u v => by simp [sameAs, u, v]) as x4 (fun z => hne (.inr z)) h4 l5 t6 R e5 i6
                have i1 := (isS_mark (.inr rfl) e1 (l2 ++ (t3 :: (t4 :: (l5 ++ (t6 :: R)))))).1
                have i0 : isS [108, 101, 116] (t1 :: (l2 ++ (t3 :: (t4 :: (l5 ++ (t6 :: R)))))) = false := by
                  obtain ⟨a1, b1, _⟩ := three_na (by decide) e1
                  simp [isS, a1, b1]
                have w3 := want_mark (.inr rfl) e3 (t4 :: (l5 ++ (t6 :: R)))
                have w4 := want_mark (.inl rfl) e4 (l5 ++ (t6 :: R))
                obtain ⟨k1, _, _⟩ := three_na (by decide) e1
                refine ⟨.mk 6 t1.at' [] 0 [] [] [y] ys, ?_, by simp [sameE, sameK, hk, hs, hss]⟩
                simp only [List.cons_append, List.append_assoc, List.nil_append]
                unfold pExp
                rw [if_neg (by omega), if_neg (by omega), i0, if_neg (by decide), if_pos i1, hy]
                simp only [andT, w3, w4, hys]
          · cases h
theorem back_D : BackW oData (fun l => if isS [100, 97, 116, 97] l then pData l.tail else .error (0, [])) (fun a b => decide (a.name = b.name) && decide (a.arity = b.arity)) := fun x ts h l R hl => by
  unfold oData at h
  obtain ⟨x1, y1, h1, g1, rfl⟩ := seqO_ok h
  obtain ⟨x2, y2, h2, h3, rfl⟩ := seqO_ok g1
  clear h g1
  cases h1; cases h3
  obtain ⟨rfl, hw⟩ := oName_ok h2
  simp only [List.cons_append, List.nil_append] at hl
  obtain ⟨t1, q1, rfl, e1, hq⟩ := like_cons hl
  obtain ⟨t2, q2, rfl, e2, hq⟩ := like_cons hq
  obtain ⟨t3, q3, rfl, e3, hq⟩ := like_cons hq
  obtain ⟨t4, rfl, e4⟩ := like_one hq
  have i1 := (isS_mark (.inr rfl) e1 (t2 :: t3 :: t4 :: R)).1
  have k2 := kind_na (by decide) e2 (t3 :: t4 :: R)
  obtain ⟨a3, _, c3⟩ := three_nu e3
  have k3 : pKind 4 (t3 :: t4 :: R) = .ok (t3, t4 :: R) := by simp [pKind, a3]
  have w4 := want_mark (.inl rfl) e4 R
  obtain ⟨_, b2, _⟩ := three_na (by decide) e2
  refine ⟨⟨t2.text, t3.num, t2.at'⟩, ?_, by simp [b2, c3]⟩
  simp only [List.cons_append, List.nil_append]
  rw [i1]
  simp only [if_true, List.tail_cons, pData, k2, k3, w4, andT]
theorem back_datas : ∀ (ds : List D) (ts : List ATok), oL oData ds = .ok ts → ∀ (l R : List Tok), Like l ts → isS [100, 97, 116, 97] R = false → ∀ n, ds.length < n → ∃ es, pDatas n (l ++ R) = .ok (es, R) ∧ sameDs ds es = true
  | ds, ts, h, l, R, hl, hR, 0, hn => absurd hn (Nat.not_lt_zero _)
  | [], ts, h, l, R, hl, hR, n + 1, hn => by
    cases h
    rw [like_nil hl, List.nil_append]
    exact ⟨[], by unfold pDatas; rw [hR]; rfl, rfl⟩
  | d :: ds, ts, h, l, R, hl, hR, n + 1, hn => by
    obtain ⟨x1, y1, h1, h2, rfl⟩ := seqO_ok h
    obtain ⟨l1, l2, rfl, e1, e2⟩ := like_app hl
    rw [List.append_assoc]
    obtain ⟨y, hy, hs⟩ := back_D d x1 h1 l1 (l2 ++ R) e1
    obtain ⟨es, hes, hss⟩ := back_datas ds y1 h2 l2 R e2 hR n (by simp only [List.length_cons] at hn; omega)
    simp only at hy
    split at hy
    · rename_i hi
      refine ⟨y :: es, ?_, by simp only [Bool.and_eq_true, decide_eq_true_eq] at hs; simp [sameDs, hs, hss]⟩
      unfold pDatas
      rw [if_pos hi, hy]
      simp only [andT, hes]
    · cases hy
theorem back_binds : ∀ (bs : List B) (ts : List ATok), oL (oB (oE 60)) bs = .ok ts → ∀ (l : List Tok), Like l ts → ∀ n, bs.length < n → ∃ cs, pBinds n l = .ok (cs, []) ∧ sameBs bs cs = true
  | bs, ts, h, l, hl, 0, hn => absurd hn (Nat.not_lt_zero _)
  | [], ts, h, l, hl, n + 1, hn => by
    cases h
    rw [like_nil hl]
    exact ⟨[], rfl, by simp [sameBs]⟩
  | b :: bs, ts, h, l, hl, n + 1, hn => by
    obtain ⟨x1, y1, h1, h2, rfl⟩ := seqO_ok h
    obtain ⟨l1, l2, rfl, e1, e2⟩ := like_app hl
    obtain ⟨y, hy, hs⟩ := back_B 60 (back_E 60) b x1 h1 l1 l2 e1
    obtain ⟨es, hes, hss⟩ := back_binds bs y1 h2 l2 e2 n (by simp only [List.length_cons] at hn; omega)
    obtain ⟨a0, r0, rfl, k0⟩ := head_B _ b x1 h1
    obtain ⟨t, q, rfl, _⟩ := like_cons e1
    refine ⟨y :: es, ?_, by simp [sameBs, hs, hss]⟩
    rw [List.cons_append] at hy ⊢
    simp only [pBinds, hy, andT, hes]
theorem oL_len {α : Type} {f : α → OT} (hf : ∀ x ts, f x = .ok ts → 1 ≤ ts.length) : ∀ (l : List α) ts, oL f l = .ok ts → l.length ≤ ts.length
  | [], ts, h => by cases h; exact Nat.le_refl _
  | x :: r, ts, h => by
    obtain ⟨x1, y1, h1, h2, rfl⟩ := seqO_ok h
    have a := hf x x1 h1
    have b := oL_len hf r y1 h2
    simp only [List.length_append, List.length_cons]
    omega
theorem oData_len (x : D) (ts : List ATok) (h : oData x = .ok ts) : 1 ≤ ts.length := by
  unfold oData at h
  obtain ⟨x1, y1, h1, g1, rfl⟩ := seqO_ok h
  cases h1
  simp
theorem oB_len (d : Nat) (x : B) (ts : List ATok) (h : oB (oE d) x = .ok ts) : 1 ≤ ts.length := by
  obtain ⟨a, r, rfl, _⟩ := head_B _ x ts h
  simp
/-- Tokens that are those of a program make that program again. -/
theorem back_P {p : Pg} {ts : List ATok} (h : oP p = .ok ts) {l : List Tok} (hl : Like l ts) : ∃ q, pProg l = .ok (q, []) ∧ sameP p q = true := by
  obtain ⟨x1, y1, h1, h2, rfl⟩ := seqO_ok h
  obtain ⟨l1, l2, rfl, e1, e2⟩ := like_app hl
  have n1 : p.datas.length ≤ l1.length := by have a := oL_len oData_len _ _ h1; have b := congrArg List.length e1; simp only [List.length_map] at b; omega
  have n2 : p.binds.length ≤ l2.length := by have a := oL_len (oB_len 60) _ _ h2; have b := congrArg List.length e2; simp only [List.length_map] at b; omega
  have hR : isS [100, 97, 116, 97] l2 = false := by
    cases hb : p.binds with
    | nil =>
      rw [hb] at h2
      cases h2
      rw [like_nil e2]
      rfl
    | cons b bs =>
      rw [hb] at h2
      obtain ⟨x3, y3, h3, h4, rfl⟩ := seqO_ok h2
      obtain ⟨a0, r0, rfl, k0⟩ := head_B _ b x3 h3
      obtain ⟨t0, q0, rfl, e0⟩ := like_head (r := r0 ++ y3) e2 (by omega) []
      exact isS_other (by omega) _
  obtain ⟨es, hes, hs1⟩ := back_datas p.datas x1 h1 l1 l2 e1 hR ((l1 ++ l2).length + 1) (by rw [List.length_append]; omega)
  obtain ⟨cs, hcs, hs2⟩ := back_binds p.binds y1 h2 l2 e2 (l2.length + 1) (by omega)
  refine ⟨⟨es, cs⟩, ?_, by simp [sameP, hs1, hs2]⟩
  unfold pProg
  rw [hes]
  simp only [andT, hcs]
end Go.Proofs.YtcbdolflgpmaoaaDoor


/- Layer 7 (show): the same programs have the same tokens; what is parsed has tokens; lines: of no program. -/
namespace Go.Proofs.YtcbdolflgpmaoaaDoor
set_option linter.unusedVariables false
set_option linter.unusedSimpArgs false

/-! ## The same programs -/
theorem same_atoms : ∀ a b : List Atm, sameAtm a b = true → oAtoms a = oAtoms b
  | [], [], _ => rfl
  | [], _ :: _, h => by simp [sameAtm] at h
  | _ :: _, [], h => by simp [sameAtm] at h
  | x :: r, y :: q, h => by
    simp only [sameAtm, Bool.and_eq_true, Bool.or_eq_true, decide_eq_true_eq] at h
    have ih := same_atoms r q h.2
    have e : oAtom x = oAtom y := by
      unfold oAtom
      rw [← h.1.1]
      split
      · rename_i hn
        rcases h.1.2 with z | z
        · exact absurd hn z
        · rw [z]
      · rfl
    simp only [oAtoms, ih, e]
mutual
theorem same_E : ∀ (x y : E), sameE x y = true → ∀ d, oE d x = oE d y
  | .mk k a n m ts bs ks as, .mk k' a' n' m' ts' bs' ks' as', h, d => by
    cases d with
    | zero => rfl
    | succ d =>
    simp only [sameE] at h
    split at h
    · cases h
    · rename_i hk
      have hk : k = k' := by simpa using hk
      subst hk
      unfold oE
      split at h
      · rename_i c
        simp only [Bool.and_eq_true, decide_eq_true_eq] at h
        rw [if_pos c, if_pos c, h.1, same_atoms _ _ h.2]
      · rename_i c
        rw [if_neg c, if_neg c]
        split at h
        · rename_i c2
          simp only [decide_eq_true_eq] at h
          rw [if_pos c2, if_pos c2, h]
        · rename_i c2
          rw [if_neg c2, if_neg c2]
          split at h
          · rename_i c3
            simp only [Bool.and_eq_true] at h
            rw [if_pos c3, if_pos c3]
            have e1 := same_Bs bs bs' h.1 d
            have e2 := same_K ks ks' h.2 d
            have n1 := sameBs_nil h.1
            have n2 := sameK_nil h.2
            by_cases z : bs = [] ∨ ks = []
            · rw [if_pos z, if_pos (by rw [← n1, ← n2]; exact z)]
            · rw [if_neg z, if_neg (by rw [← n1, ← n2]; exact z), e1, e2]
          · rename_i c3
            rw [if_neg c3, if_neg c3]
            split at h
            · rename_i c4
              simp only [Bool.and_eq_true] at h
              rw [if_pos c4, if_pos c4]
              have e1 := same_As as as' h.2 d
              have e2 := same_K ks ks' h.1 d
              have n1 := sameAs_nil h.2
              have n2 := sameK_nil h.1
              by_cases z : ks = [] ∨ as = []
              · rw [if_pos z, if_pos (by rw [← n1, ← n2]; exact z)]
              · rw [if_neg z, if_neg (by rw [← n1, ← n2]; exact z), e1, e2]
            · rename_i c4
              rw [if_neg c4, if_neg c4]
theorem same_B : ∀ (x y : B), sameB x y = true → ∀ d, oB (oE d) x = oB (oE d) y
  | .mk n a as x, .mk n' a' as' x', h, d => by
    simp only [sameB, Bool.and_eq_true, decide_eq_true_eq] at h
    simp only [oB, h.1.1, h.1.2, same_E x x' h.2 d]
theorem same_A : ∀ (x y : A), sameA x y = true → ∀ d, oA (oE d) x = oA (oE d) y
  | .mk k a n m vs x, .mk k' a' n' m' vs' x', h, d => by
    simp only [sameA, Bool.and_eq_true, Bool.or_eq_true, decide_eq_true_eq] at h
    obtain ⟨⟨⟨⟨rfl, h1⟩, h2⟩, h3⟩, h4⟩ := h
    simp only [oA, same_E x x' h1 d]
    congr 1
    unfold oHead
    split
    · rename_i c
      rw [h2.resolve_left (fun z => z (.inl c)), h4.resolve_left (fun z => z c)]
    · split
      · rename_i c
        rw [h3.resolve_left (fun z => z c)]
      · split
        · rename_i c
          rw [h2.resolve_left (fun z => z (.inr c))]
        · rfl
theorem same_K : ∀ (x y : List E), sameK x y = true → ∀ d, oK (oE d) x = oK (oE d) y
  | [], y, h, d => by
    cases y with
    | nil => rfl
    | cons a b => simp [sameK] at h
  | x :: r, y, h, d => by
    cases y with
    | nil => simp [sameK] at h
    | cons a b =>
      simp only [sameK] at h
      exact same_E x a h d
theorem same_Bs : ∀ (x y : List B), sameBs x y = true → ∀ d, oL (oB (oE d)) x = oL (oB (oE d)) y
  | [], y, h, d => by
    cases y with
    | nil => rfl
    | cons a b => simp [sameBs] at h
  | x :: r, y, h, d => by
    cases y with
    | nil => simp [sameBs] at h
    | cons a b =>
      simp only [sameBs, Bool.and_eq_true] at h
      simp only [oL, same_B x a h.1 d, same_Bs r b h.2 d]
theorem same_As : ∀ (x y : List A), sameAs x y = true → ∀ d, oL (oA (oE d)) x = oL (oA (oE d)) y
  | [], y, h, d => by
    cases y with
    | nil => rfl
    | cons a b => simp [sameAs] at h
  | x :: r, y, h, d => by
    cases y with
    | nil => simp [sameAs] at h
    | cons a b =>
      simp only [sameAs, Bool.and_eq_true] at h
      simp only [oL, same_A x a h.1 d, same_As r b h.2 d]
theorem sameBs_nil : ∀ {x y : List B}, sameBs x y = true → ((x = []) = (y = []))
  | [], y, h => by cases y <;> simp_all [sameBs]
  | x :: r, y, h => by cases y <;> simp_all [sameBs]
theorem sameAs_nil : ∀ {x y : List A}, sameAs x y = true → ((x = []) = (y = []))
  | [], y, h => by cases y <;> simp_all [sameAs]
  | x :: r, y, h => by cases y <;> simp_all [sameAs]
theorem sameK_nil : ∀ {x y : List E}, sameK x y = true → ((x = []) = (y = []))
  | [], y, h => by cases y <;> simp_all [sameK]
  | x :: r, y, h => by cases y <;> simp_all [sameK]
end

/-! ## Each data and each bind by itself: its line -/
def linesO (p : Pg) : Except Int (List (List ATok)) :=
  match oLs oData p.datas with
  | .ok x => (match oLs (oB (oE 60)) p.binds with
    | .ok y => .ok (x ++ y)
    | .error e => .error e)
  | .error e => .error e
theorem oLs_oL {α : Type} (f : α → OT) : ∀ l : List α, oL f l = (match oLs f l with | .ok y => .ok y.flatten | .error e => .error e)
  | [] => rfl
  | a :: r => by
    have ih := oLs_oL f r
    simp only [oL, oLs]
    rw [ih]
    rcases f a with e | x
    · rfl
    · rcases oLs f r with e | y
      · rfl
      · simp [seqO]
theorem oP_lines (p : Pg) : oP p = (match linesO p with | .ok y => .ok y.flatten | .error e => .error e) := by
  unfold oP linesO
  rw [oLs_oL, oLs_oL]
  rcases oLs oData p.datas with e | x
  · rfl
  · rcases oLs (oB (oE 60)) p.binds with e | y
    · rfl
    · simp [seqO]
theorem sameDs_oLs : ∀ x y : List D, sameDs x y = true → oLs oData x = oLs oData y
  | [], [], _ => rfl
  | [], _ :: _, h => by simp [sameDs] at h
  | _ :: _, [], h => by simp [sameDs] at h
  | x :: r, y :: q, h => by
    simp only [sameDs, Bool.and_eq_true, decide_eq_true_eq] at h
    have ih := sameDs_oLs r q h.2
    have e : oData x = oData y := by simp only [oData, h.1.1, h.1.2]
    simp only [oLs, ih, e]
theorem sameBs_oLs : ∀ x y : List B, sameBs x y = true → oLs (oB (oE 60)) x = oLs (oB (oE 60)) y
  | [], y, h => by
    cases y with
    | nil => rfl
    | cons a b => simp [sameBs] at h
  | x :: r, y, h => by
    cases y with
    | nil => simp [sameBs] at h
    | cons a b =>
      simp only [sameBs, Bool.and_eq_true] at h
      simp only [oLs, same_B x a h.1 60, sameBs_oLs r b h.2]
theorem same_lines {p q : Pg} (h : sameP p q = true) : linesO p = linesO q := by
  simp only [sameP, Bool.and_eq_true] at h
  simp only [linesO, sameDs_oLs _ _ h.1, sameBs_oLs _ _ h.2]

/-! ## What is parsed has tokens -/
def GoodW (l : List Tok) : Prop := ∀ t ∈ l, (t.kind = 1 ∨ t.kind = 2 ∨ t.kind = 3) → wordB t.text t.kind = true
theorem take_run (p : Int → Bool) : ∀ l : List UInt8, runN p (l.take (runN p l)) = runN p l
  | [] => rfl
  | c :: r => by
    by_cases h : p c.toNat = true
    · simp only [runN, h, if_true, List.take_succ_cons, take_run p r]
    · simp [runN, h]
theorem read_again {l : List UInt8} {t : Tk} (h : readT l = .ok t) (hk : t.kind = 1 ∨ t.kind = 2 ∨ t.kind = 3) : wordB t.text t.kind = true := by
  obtain ⟨h1, h32⟩ := readT_one h
  suffices H : readT t.text = .ok ⟨t.kind, t.text, 0, t.text.length⟩ by
    simp only [wordB, justT, H, Bool.and_eq_true, Bool.or_eq_true, decide_eq_true_eq, and_true]
    exact hk
  have hn : 0 < t.text.length → t.text.length ≤ 32 := fun _ => h32
  cases l with
  | nil => cases h1
  | cons c r =>
    unfold one at h1
    simp only at h1
    split at h1
    · rename_i hs
      cases h1
      simp only at h32 hk ⊢
      have R := take_run rn (c :: r)
      have hp : 0 < runN rn (c :: r) := by
        have : rn c.toNat = true := by simp only [sm, rn, decide_eq_true_eq] at hs ⊢; exact .inl hs
        simp only [runN, this, if_true]; omega
      obtain ⟨q, e⟩ := take_head (c := c) (r := r) hp
      have L : ((c :: r).take (runN rn (c :: r))).length = runN rn (c :: r) := by rw [List.length_take]; have := runN_le rn (c :: r); omega
      rw [e] at R L hk h32 ⊢
      have hR : runN rn (c :: q) = (c :: q).length := by rw [R, L]
      unfold readT
      rw [one_small hs, hR, List.take_length]
      simp only
      rw [if_neg (by omega)]
    · split at h1
      · rename_i hs0 hs
        cases h1
        simp only at h32 hk ⊢
        have R := take_run rn (c :: r)
        have hp : 0 < runN rn (c :: r) := by
          have : rn c.toNat = true := by simp only [gr, rn, decide_eq_true_eq] at hs ⊢; exact .inr (.inl hs)
          simp only [runN, this, if_true]; omega
        obtain ⟨q, e⟩ := take_head (c := c) (r := r) hp
        have L : ((c :: r).take (runN rn (c :: r))).length = runN rn (c :: r) := by rw [List.length_take]; have := runN_le rn (c :: r); omega
        rw [e] at R L h32 ⊢
        have hR : runN rn (c :: q) = (c :: q).length := by rw [R, L]
        unfold readT
        rw [one_great (by simpa using hs0) hs, hR, List.take_length]
        simp only
        rw [if_neg (by omega)]
      · split at h1
        · rename_i hs
          cases h1
          simp only at h32 hk ⊢
          rw [List.take_succ_cons] at h32 ⊢
          have R := take_run rn r
          have L : (r.take (runN rn r)).length = runN rn r := by rw [List.length_take]; have := runN_le rn r; omega
          have hx : sm (nxt (r.take (runN rn r))) = true := by
            cases r with
            | nil => exact hs.2
            | cons d q =>
              have hd : rn d.toNat = true := by have z := hs.2; rw [show nxt (d :: q) = d.toNat from rfl] at z; unfold sm at z; unfold rn; rw [decide_eq_true_eq] at z ⊢; exact .inl z
              simp only [runN, hd, if_true, List.take_succ_cons]
              exact hs.2
          unfold readT
          rw [one_prim hs.1 hx, R, List.take_of_length_le (by simp only [List.length_cons, L]; omega)]
          simp only [List.length_cons, L] at h32 ⊢
          rw [if_neg (by omega)]
        · split at h1
          · split at h1
            · cases h1; simp at hk
            · cases h1
          · split at h1
            · cases h1; simp at hk
            · split at h1
              · cases h1; simp at hk
              · cases h1
theorem scanF_goodW : ∀ f l a ts, scanF f l a = .ok ts → GoodW ts
  | 0, _, _, _, h => by cases h; exact fun t ht => by cases ht
  | f + 1, l, a, ts, h => by
    by_cases hk : skipN false l < l.length
    · rcases hr : readT (l.drop (skipN false l)) with e | t
      · rw [scanF_err _ _ _ hk hr] at h; cases h
      · rw [scanF_ok _ _ _ hk hr] at h
        rcases hq : scanF f ((l.drop (skipN false l)).drop t.len) (a + skipN false l + t.len) with e | us
        · rw [hq] at h; cases h
        · rw [hq] at h
          cases h
          have ih := scanF_goodW f _ _ _ hq
          intro u hu
          rcases List.mem_append.1 hu with z | z
          · rw [List.mem_singleton] at z; subst z; exact read_again hr
          · exact ih u z
    · rw [scanF_end _ _ _ hk] at h
      cases h
      exact fun t ht => by cases ht
theorem scan_goodW {l : List UInt8} {ts : List Tok} (h : scanAll l = .ok ts) : GoodW ts := by
  unfold scanAll at h
  split at h
  · cases h
  · exact scanF_goodW _ _ _ _ h
theorem GoodW.tail {t : Tok} {l : List Tok} (h : GoodW (t :: l)) : GoodW l := fun u hu => h u (List.mem_cons_of_mem _ hu)
theorem GoodW.sfx {l r : List Tok} (h : GoodW l) (hr : r <:+ l) : GoodW r := fun u hu => h u (hr.subset hu)
theorem seqO_some {a b : OT} {x y : List ATok} (ha : a = .ok x) (hb : b = .ok y) : seqO a b = .ok (x ++ y) := by rw [ha, hb]; rfl
/-- what is told well -/
def Has (o : OT) : Prop := ∃ x, o = .ok x
theorem Has.seq {a b : OT} (ha : Has a) (hb : Has b) : Has (seqO a b) := by
  obtain ⟨x, rfl⟩ := ha
  obtain ⟨y, rfl⟩ := hb
  exact ⟨_, rfl⟩
theorem Has.ok (x : List ATok) : Has (.ok x) := ⟨x, rfl⟩
theorem has_name {k : Int} {s : List UInt8} (h : wordB s k = true) : Has (oName k s) := by unfold oName; rw [if_pos h]; exact ⟨_, rfl⟩
theorem has_names : ∀ l : List Tok, GoodW l → Has (oNames (pNames l).1)
  | [], _ => ⟨_, rfl⟩
  | t :: r, h => by
    unfold pNames
    split
    · rename_i hk
      refine Has.seq (has_name ?_) (has_names r h.tail)
      have := h t (List.mem_cons_self ..) (.inl hk)
      rw [hk] at this
      exact this
    · exact ⟨_, rfl⟩
theorem has_atoms : ∀ l : List Tok, GoodW l → Good l → Has (oAtoms (pAtoms l).1)
  | [], _, _ => ⟨_, rfl⟩
  | t :: r, h, g => by
    unfold pAtoms
    split
    · rename_i hk
      refine Has.seq ?_ (has_atoms r h.tail g.tail)
      unfold oAtom
      split
      · exact ⟨_, rfl⟩
      · rename_i hn
        rcases hk with hk | hk
        · have := h t (List.mem_cons_self ..) (.inl hk)
          rw [hk] at this
          exact has_name this
        · exact absurd (g.head.int hk) hn
    · exact ⟨_, rfl⟩
def HasP {α : Type} (p : List Tok → PR α) (o : α → OT) : Prop := ∀ l, GoodW l → Good l → ∀ x r, p l = .ok (x, r) → Has (o x)
theorem Good.sfx {l r : List Tok} (h : Good l) (hr : r <:+ l) : Good r := fun u hu => h u (hr.subset hu)
theorem has_args {l r : List Tok} {as : List (List UInt8)} (hw : GoodW l) (h : pArgs l = .ok (as, r)) : Has (oArgs as) := by
  unfold pArgs at h
  split at h
  · obtain ⟨t, r1, h1, h⟩ := andT_ok h
    obtain ⟨u, r2, h2, h⟩ := andT_ok h
    obtain ⟨e1, hk⟩ := pKind_eats h1
    cases h
    unfold oArgs
    rw [if_neg (by simp)]
    have hw1 : GoodW (t :: r1) := by rw [← e1]; exact hw.sfx (List.tail_suffix l)
    have := hw1 t (List.mem_cons_self ..) (.inl hk)
    rw [hk] at this
    exact Has.seq (.ok _) (Has.seq (Has.seq (has_name this) (has_names r1 hw1.tail)) (.ok _))
  · cases h
    exact ⟨_, rfl⟩
theorem rest_ok {α : Type} {p : List Tok → PR α} (hs : Sfx p) {l r : List Tok} {a : α} (h : p l = .ok (a, r)) : r <:+ l := by
  have := hs l
  rw [h] at this
  exact this
theorem has_B (d : Nat) (hE : HasP (pExp d) (oE d)) : HasP (pBind (pExp d)) (oB (oE d)) := fun l hw hg x r h => by
  unfold pBind at h
  obtain ⟨t, r1, h1, h⟩ := andT_ok h
  obtain ⟨_, r2, h2, h⟩ := andT_ok h
  obtain ⟨as, r3, h3, h⟩ := andT_ok h
  obtain ⟨y, r4, h4, h⟩ := andT_ok h
  obtain ⟨_, r5, h5, h⟩ := andT_ok h
  cases h
  have s1 := rest_ok (kind_sfx 1) h1
  have s2 := (rest_ok (want_sfx _) h2).trans s1
  have s3 := (rest_ok args_sfx h3).trans s2
  obtain ⟨e1, hk⟩ := pKind_eats h1
  subst e1
  have w1 := hw t (List.mem_cons_self ..) (.inl hk)
  rw [hk] at w1
  exact Has.seq (has_name w1) (Has.seq (.ok _) (Has.seq (has_args (hw.sfx s2) h3) (Has.seq (hE r3 (hw.sfx s3) (hg.sfx s3) _ _ h4) (.ok _))))
theorem has_A (d : Nat) (hE : HasP (pExp d) (oE d)) : HasP (pAlt (pExp d)) (oA (oE d)) := fun l hw hg x r h => by
  unfold pAlt at h
  obtain ⟨z, r1, h1, h⟩ := andT_ok h
  obtain ⟨_, r2, h2, h⟩ := andT_ok h
  obtain ⟨y, r4, h4, h⟩ := andT_ok h
  obtain ⟨_, r5, h5, h⟩ := andT_ok h
  cases h
  have s1 := rest_ok head_sfx h1
  have s2 := (rest_ok (want_sfx _) h2).trans s1
  refine Has.seq ?_ (Has.seq (.ok _) (Has.seq (hE r2 (hw.sfx s2) (hg.sfx s2) _ _ h4) (.ok _)))
  cases l with
  | nil => cases h1
  | cons t q =>
    simp only [pHead] at h1
    unfold oHead
    split at h1
    · rename_i hk
      cases h1
      have w1 := hw t (List.mem_cons_self ..) (.inr (.inl hk))
      rw [hk] at w1
      simp only [if_true]
      exact Has.seq (has_name w1) (has_names q hw.tail)
    · split at h1
      · cases h1
        exact ⟨_, rfl⟩
      · split at h1
        · rename_i hk
          cases h1
          have w1 := hw t (List.mem_cons_self ..) (.inl hk)
          rw [hk] at w1
          exact has_name w1
        · cases h1
theorem has_many {α : Type} {one : List Tok → PR α} {o : α → OT} (h1 : HasP one o) (hs : Sfx one) : ∀ n l, GoodW l → Good l → ∀ xs r, manyF one n l = .ok (xs, r) → Has (oL o xs) ∧ xs ≠ []
  | 0, l, hw, hg, xs, r, h => by cases h
  | n + 1, l, hw, hg, xs, r, h => by
    unfold manyF at h
    obtain ⟨x, r1, h2, h⟩ := andT_ok h
    have s := rest_ok hs h2
    have hx := h1 l hw hg _ _ h2
    split at h
    · cases h
      exact ⟨Has.seq hx (.ok _), by simp⟩
    · obtain ⟨ys, r2, h3, h⟩ := andT_ok h
      cases h
      exact ⟨Has.seq hx (has_many h1 hs n r1 (hw.sfx s) (hg.sfx s) _ _ h3).1, by simp⟩
theorem oE_more : ∀ d x ts, oE d x = .ok ts → oE (d + 1) x = .ok ts
  | 0, x, ts, h => by cases h
  | d + 1, .mk k a n m at' bs ks as, ts, h => by
    have ih := oE_more d
    have ihB : ∀ x ts, oB (oE d) x = .ok ts → oB (oE (d + 1)) x = .ok ts := fun ⟨n, a, as, x⟩ ts h => by
      unfold oB at h ⊢
      obtain ⟨x1, y1, h1, g1, rfl⟩ := seqO_ok h
      obtain ⟨x2, y2, h2, g2, rfl⟩ := seqO_ok g1
      obtain ⟨x3, y3, h3, g3, rfl⟩ := seqO_ok g2
      obtain ⟨x4, y4, h4, h5, rfl⟩ := seqO_ok g3
      exact seqO_some h1 (seqO_some h2 (seqO_some h3 (seqO_some (ih _ _ h4) h5)))
    have ihA : ∀ x ts, oA (oE d) x = .ok ts → oA (oE (d + 1)) x = .ok ts := fun ⟨k, a, n, m, vs, x⟩ ts h => by
      unfold oA at h ⊢
      obtain ⟨x1, y1, h1, g1, rfl⟩ := seqO_ok h
      obtain ⟨x2, y2, h2, g2, rfl⟩ := seqO_ok g1
      obtain ⟨x4, y4, h4, h5, rfl⟩ := seqO_ok g2
      exact seqO_some h1 (seqO_some h2 (seqO_some (ih _ _ h4) h5))
    have ihL : ∀ {α : Type} (f g : α → OT), (∀ x ts, f x = .ok ts → g x = .ok ts) → ∀ l ts, oL f l = .ok ts → oL g l = .ok ts := fun f g hfg l => by
      induction l with
      | nil => intro ts h; exact h
      | cons x r ihr =>
        intro ts h
        obtain ⟨x1, y1, h1, h2, rfl⟩ := seqO_ok h
        exact seqO_some (hfg _ _ h1) (ihr _ h2)
    have ihK : ∀ l ts, oK (oE d) l = .ok ts → oK (oE (d + 1)) l = .ok ts := fun l ts h => by
      cases l with
      | nil => cases h
      | cons x r => exact ih _ _ h
    rw [oE] at h ⊢
    split at h
    · rename_i c; rw [if_pos c]; exact h
    · rename_i c
      rw [if_neg c]
      split at h
      · rename_i c2; rw [if_pos c2]; exact h
      · rename_i c2
        rw [if_neg c2]
        split at h
        · rename_i c3
          rw [if_pos c3]
          split at h
          · cases h
          · rename_i c4
            rw [if_neg c4]
            obtain ⟨x1, y1, h1, g1, rfl⟩ := seqO_ok h
            obtain ⟨x2, y2, h2, g2, rfl⟩ := seqO_ok g1
            obtain ⟨x3, y3, h3, h4, rfl⟩ := seqO_ok g2
            exact seqO_some h1 (seqO_some (ihL _ _ ihB _ _ h2) (seqO_some h3 (ihK _ _ h4)))
        · rename_i c3
          rw [if_neg c3]
          split at h
          · rename_i c5
            rw [if_pos c5]
            split at h
            · cases h
            · rename_i c4
              rw [if_neg c4]
              obtain ⟨x1, y1, h1, g1, rfl⟩ := seqO_ok h
              obtain ⟨x2, y2, h2, g2, rfl⟩ := seqO_ok g1
              obtain ⟨x3, y3, h3, g3, rfl⟩ := seqO_ok g2
              obtain ⟨x4, y4, h4, h5, rfl⟩ := seqO_ok g3
              exact seqO_some h1 (seqO_some (ihK _ _ h2) (seqO_some h3 (seqO_some (ihL _ _ ihA _ _ h4) h5)))
          · cases h
theorem has_E : ∀ d, HasP (pExp d) (oE d)
  | 0 => fun l hw hg x r h => by cases l <;> cases h
  | d + 1 => fun l hw hg x r h => by
    have ih := has_E d
    cases l with
    | nil => cases h
    | cons t q =>
      unfold pExp at h
      split at h
      · cases h
        exact ⟨[nuT t.num], by simp [oE]⟩
      · split at h
        · rename_i hk
          cases h
          have w1 := hw t (List.mem_cons_self ..) hk
          unfold oE
          rw [if_pos hk]
          exact Has.seq (has_name w1) (has_atoms q hw.tail hg.tail)
        · split at h
          · obtain ⟨_, r1, h1, h⟩ := andT_ok h
            obtain ⟨bs, r2, h2, h⟩ := andT_ok h
            obtain ⟨_, r3, h3, h⟩ := andT_ok h
            obtain ⟨y, r4, h4, h⟩ := andT_ok h
            cases h
            have s1 := (rest_ok (want_sfx _) h1).trans (List.suffix_cons t q)
            have s2 := (rest_ok (manyF_sfx (bind_sfx (exp_sfx d)) _) h2).trans s1
            have s3 := (rest_ok (want_sfx _) h3).trans s2
            obtain ⟨b1, b2⟩ := has_many (has_B d ih) (bind_sfx (exp_sfx d)) _ r1 (hw.sfx s1) (hg.sfx s1) _ _ h2
            have hy := ih r3 (hw.sfx s3) (hg.sfx s3) _ _ h4
            unfold oE
            simp only [show ¬ ((5 : Int) = 1 ∨ (5 : Int) = 2 ∨ (5 : Int) = 3) by decide, if_false, show ¬ (5 : Int) = 4 by decide, if_true]
            rw [if_neg (by simp [b2])]
            exact Has.seq (.ok _) (Has.seq b1 (Has.seq (.ok _) hy))
          · split at h
            · obtain ⟨y, r1, h1, h⟩ := andT_ok h
              obtain ⟨_, r2, h2, h⟩ := andT_ok h
              obtain ⟨_, r3, h3, h⟩ := andT_ok h
              obtain ⟨as, r4, h4, h⟩ := andT_ok h
              cases h
              have s0 := List.suffix_cons t q
              have s1 := (rest_ok (exp_sfx d) h1).trans s0
              have s2 := (rest_ok (want_sfx _) h2).trans s1
              have s3 := (rest_ok (want_sfx _) h3).trans s2
              obtain ⟨b1, b2⟩ := has_many (has_A d ih) (alt_sfx (exp_sfx d)) _ r3 (hw.sfx s3) (hg.sfx s3) _ _ h4
              have hy := ih q (hw.sfx s0) (hg.sfx s0) _ _ h1
              unfold oE
              simp only [show ¬ ((6 : Int) = 1 ∨ (6 : Int) = 2 ∨ (6 : Int) = 3) by decide, if_false, show ¬ (6 : Int) = 4 by decide, show ¬ (6 : Int) = 5 by decide, if_true]
              rw [if_neg (by simp [b2])]
              exact Has.seq (.ok _) (Has.seq hy (Has.seq (.ok _) (Has.seq b1 (.ok _))))
            · split at h
              · obtain ⟨y, r1, h1, h⟩ := andT_ok h
                obtain ⟨_, r2, h2, h⟩ := andT_ok h
                cases h
                have s0 := List.suffix_cons t q
                obtain ⟨ts, hts⟩ := ih q (hw.sfx s0) (hg.sfx s0) _ _ h1
                exact ⟨ts, oE_more _ _ _ hts⟩
              · cases h
theorem has_data : HasP pData oData := fun l hw hg x r h => by
  unfold pData at h
  obtain ⟨t, r1, h1, h⟩ := andT_ok h
  obtain ⟨n, r2, h2, h⟩ := andT_ok h
  obtain ⟨_, r3, h3, h⟩ := andT_ok h
  cases h
  obtain ⟨e1, hk⟩ := pKind_eats h1
  subst e1
  have w1 := hw t (List.mem_cons_self ..) (.inr (.inl hk))
  rw [hk] at w1
  exact Has.seq (.ok _) (Has.seq (has_name w1) (.ok _))
def HasL {α : Type} (o : α → OT) (l : List α) : Prop := ∃ x, oLs o l = .ok x
theorem HasL.cons {α : Type} {o : α → OT} {a : α} {l : List α} (h : Has (o a)) (hl : HasL o l) : HasL o (a :: l) := by
  obtain ⟨x, hx⟩ := h
  obtain ⟨y, hy⟩ := hl
  exact ⟨x :: y, by simp only [oLs, hx, hy]⟩
theorem has_datas : ∀ n l, GoodW l → Good l → ∀ xs r, pDatas n l = .ok (xs, r) → HasL oData xs
  | 0, l, hw, hg, xs, r, h => by cases h; exact ⟨_, rfl⟩
  | n + 1, l, hw, hg, xs, r, h => by
    unfold pDatas at h
    split at h
    · obtain ⟨d, r1, h1, h⟩ := andT_ok h
      obtain ⟨ds, r2, h2, h⟩ := andT_ok h
      cases h
      have s0 := List.tail_suffix l
      have s := (rest_ok data_sfx h1).trans s0
      exact HasL.cons (has_data _ (hw.sfx s0) (hg.sfx s0) _ _ h1) (has_datas n r1 (hw.sfx s) (hg.sfx s) _ _ h2)
    · cases h; exact ⟨_, rfl⟩
theorem has_binds : ∀ n l, GoodW l → Good l → ∀ xs r, pBinds n l = .ok (xs, r) → HasL (oB (oE 60)) xs
  | 0, l, hw, hg, xs, r, h => by cases l <;> (cases h; exact ⟨_, rfl⟩)
  | n + 1, l, hw, hg, xs, r, h => by
    cases l with
    | nil => cases h; exact ⟨_, rfl⟩
    | cons t q =>
      simp only [pBinds] at h
      obtain ⟨d, r1, h1, h⟩ := andT_ok h
      obtain ⟨ds, r2, h2, h⟩ := andT_ok h
      cases h
      have s := rest_ok (bind_sfx (exp_sfx 60)) h1
      exact HasL.cons (has_B 60 (has_E 60) _ hw hg _ _ h1) (has_binds n r1 (hw.sfx s) (hg.sfx s) _ _ h2)
theorem has_lines {s : List UInt8} {p : Pg} (h : parseT s = .ok p) : ∃ L, linesO p = .ok L := by
  unfold parseT at h
  split at h
  · cases h
  · rename_i ts hs
    split at h
    · rename_i q r hp
      cases h
      have hw := scan_goodW hs
      have hg := scan_good hs
      unfold pProg at hp
      obtain ⟨ds, r1, h1, hp⟩ := andT_ok hp
      obtain ⟨bs, r2, h2, hp⟩ := andT_ok hp
      cases hp
      have s1 := rest_ok (datas_sfx _) h1
      obtain ⟨x, hx⟩ := has_datas _ _ hw hg _ _ h1
      obtain ⟨y, hy⟩ := has_binds _ _ (hw.sfx s1) (hg.sfx s1) _ _ h2
      exact ⟨x ++ y, by simp only [linesO, hx, hy]⟩
    · cases h
end Go.Proofs.YtcbdolflgpmaoaaDoor

