/- Layer 6, made ready: which trees are the same, how many expressions, how deep: of no program. -/
import Derived.Test.YtoedeedoecdajaaDoorTreeMoves
namespace Go.Proofs.YtoedeedoecdajaaDoor

def sameAtm : List Atm → List Atm → Bool
  | [], [] => true
  | x :: r, y :: q => (decide (x.name = y.name) && (decide (x.name ≠ []) || decide (x.num = y.num))) && sameAtm r q
  | _, _ => false
mutual
def sameE : E → E → Bool
  | .mk k _ n m ts bs ks as, y =>
    match y with
    | .mk k' _ n' m' ts' bs' ks' as' =>
      if k ≠ k' then false
      else if k = 1 ∨ k = 2 ∨ k = 3 then decide (n = n') && sameAtm ts ts'
      else if k = 4 then decide (m = m')
      else if k = 5 then sameBs bs bs' && sameK ks ks'
      else if k = 6 then sameK ks ks' && sameAs as as'
      else true
def sameB : B → B → Bool
  | .mk n _ as x, y =>
    match y with
    | .mk n' _ as' x' => decide (n = n') && decide (as = as') && sameE x x'
def sameA : A → A → Bool
  | .mk k _ n m vs x, y =>
    match y with
    | .mk k' _ n' m' vs' x' => decide (k = k') && sameE x x' && (decide (¬ (k = 1 ∨ k = 3)) || decide (n = n')) && (decide (k ≠ 2) || decide (m = m')) && (decide (k ≠ 1) || decide (vs = vs'))
def sameK : List E → List E → Bool
  | [], y => y.isEmpty
  | x :: _, y =>
    match y with
    | [] => false
    | x' :: _ => sameE x x'
def sameBs : List B → List B → Bool
  | [], y => y.isEmpty
  | x :: r, y =>
    match y with
    | [] => false
    | x' :: q => sameB x x' && sameBs r q
def sameAs : List A → List A → Bool
  | [], y => y.isEmpty
  | x :: r, y =>
    match y with
    | [] => false
    | x' :: q => sameA x x' && sameAs r q
end
def sameDs : List D → List D → Bool
  | [], [] => true
  | x :: r, y :: q => (decide (x.name = y.name) && decide (x.arity = y.arity)) && sameDs r q
  | _, _ => false
def sameP (p q : Pg) : Bool := sameDs p.datas q.datas && sameBs p.binds q.binds

mutual
/-- how many expressions one is, with those in it (of an alternative of no kind none) -/
def cntE : E → Nat
  | .mk k _ _ _ _ bs ks as => 1 + (if k = 5 then cntBs bs else 0) + (if k = 5 ∨ k = 6 then cntK ks else 0) + (if k = 6 then cntAs as else 0)
def cntB : B → Nat
  | .mk _ _ _ x => cntE x
def cntA : A → Nat
  | .mk k _ _ _ _ x => if k = 1 ∨ k = 2 ∨ k = 3 then cntE x else 0
def cntK : List E → Nat
  | [] => 0
  | x :: _ => cntE x
def cntBs : List B → Nat
  | [] => 0
  | x :: r => cntB x + cntBs r
def cntAs : List A → Nat
  | [] => 0
  | x :: r => cntA x + cntAs r
end
mutual
/-- how deep one is -/
def dpE : E → Nat
  | .mk k _ _ _ _ bs ks as => 1 + max (if k = 5 then dpBs bs else 0) (max (if k = 5 ∨ k = 6 then dpK ks else 0) (if k = 6 then dpAs as else 0))
def dpB : B → Nat
  | .mk _ _ _ x => dpE x
def dpA : A → Nat
  | .mk _ _ _ _ _ x => dpE x
def dpK : List E → Nat
  | [] => 0
  | x :: _ => dpE x
def dpBs : List B → Nat
  | [] => 0
  | x :: r => max (dpB x) (dpBs r)
def dpAs : List A → Nat
  | [] => 0
  | x :: r => max (dpA x) (dpAs r)
end
def sizeP (p : Pg) : Nat := cntBs p.binds

theorem sameAtm_self : ∀ l, sameAtm l l = true
  | [] => rfl
  | x :: r => by simp [sameAtm, sameAtm_self r]
mutual
theorem sameE_moved (g h : Nat → Nat) : ∀ x : E, sameE (reE g x) (reE h x) = true
  | .mk k a n m ts bs ks as => by
    have h1 := sameBs_moved g h bs
    have h2 := sameK_moved g h ks
    have h3 := sameAs_moved g h as
    simp only [reE, sameE, h1, h2, h3, sameAtm_self]
    simp
theorem sameB_moved (g h : Nat → Nat) : ∀ x : B, sameB (reB g x) (reB h x) = true
  | .mk n a as x => by
    have h1 := sameE_moved g h x
    simp only [reB, sameB, h1]
    simp
theorem sameA_moved (g h : Nat → Nat) : ∀ x : A, sameA (reA g x) (reA h x) = true
  | .mk k a n m vs x => by
    have h1 := sameE_moved g h x
    simp only [reA, sameA, h1]
    simp
theorem sameK_moved (g h : Nat → Nat) : ∀ x : List E, sameK (reEs g x) (reEs h x) = true
  | [] => by simp [reEs, sameK]
  | x :: r => by
    have h1 := sameE_moved g h x
    simp only [reEs, sameK, h1]
theorem sameBs_moved (g h : Nat → Nat) : ∀ x : List B, sameBs (reBs g x) (reBs h x) = true
  | [] => by simp [reBs, sameBs]
  | x :: r => by
    have h1 := sameB_moved g h x
    have h2 := sameBs_moved g h r
    simp only [reBs, sameBs, h1, h2]
    rfl
theorem sameAs_moved (g h : Nat → Nat) : ∀ x : List A, sameAs (reAs g x) (reAs h x) = true
  | [] => by simp [reAs, sameAs]
  | x :: r => by
    have h1 := sameA_moved g h x
    have h2 := sameAs_moved g h r
    simp only [reAs, sameAs, h1, h2]
    rfl
end
mutual
theorem sameE_self : ∀ x : E, sameE x x = true
  | .mk k a n m ts bs ks as => by
    have h1 := sameBs_self bs
    have h2 := sameK_self ks
    have h3 := sameAs_self as
    simp only [sameE, h1, h2, h3, sameAtm_self]
    simp
theorem sameB_self : ∀ x : B, sameB x x = true
  | .mk n a as x => by
    have h1 := sameE_self x
    simp only [sameB, h1]
    simp
theorem sameA_self : ∀ x : A, sameA x x = true
  | .mk k a n m vs x => by
    have h1 := sameE_self x
    simp only [sameA, h1]
    simp
theorem sameK_self : ∀ x : List E, sameK x x = true
  | [] => by simp [sameK]
  | x :: r => by
    have h1 := sameE_self x
    simp only [sameK, h1]
theorem sameBs_self : ∀ x : List B, sameBs x x = true
  | [] => by simp [sameBs]
  | x :: r => by
    have h1 := sameB_self x
    have h2 := sameBs_self r
    simp only [sameBs, h1, h2]
    rfl
theorem sameAs_self : ∀ x : List A, sameAs x x = true
  | [] => by simp [sameAs]
  | x :: r => by
    have h1 := sameA_self x
    have h2 := sameAs_self r
    simp only [sameAs, h1, h2]
    rfl
end
theorem sameDs_moved (g h : Nat → Nat) : ∀ l : List D, sameDs (l.map (reD g)) (l.map (reD h)) = true
  | [] => rfl
  | x :: r => by simp [sameDs, reD, sameDs_moved g h r]
theorem sameDs_self : ∀ l : List D, sameDs l l = true
  | [] => rfl
  | x :: r => by simp [sameDs, sameDs_self r]
theorem sameP_self (p : Pg) : sameP p p = true := by simp [sameP, sameDs_self, sameBs_self]
theorem sameP_moved (g h : Nat → Nat) (p : Pg) : sameP (rePg g p) (rePg h p) = true := by
  simp only [sameP, rePg, sameDs_moved]
  rw [← reBs_map, ← reBs_map, sameBs_moved]
  rfl
theorem sameBs_app : ∀ a b c d : List B, sameBs a b = true → sameBs c d = true → sameBs (a ++ c) (b ++ d) = true
  | [], [], _, _, _, h => h
  | [], _ :: _, _, _, h, _ => by simp [sameBs] at h
  | _ :: _, [], _, _, h, _ => by simp [sameBs] at h
  | x :: a, y :: b, c, d, h, h' => by
    simp only [sameBs, List.cons_append, Bool.and_eq_true] at h ⊢
    exact ⟨h.1, sameBs_app a b c d h.2 h'⟩
theorem sameDs_app : ∀ a b c d : List D, sameDs a b = true → sameDs c d = true → sameDs (a ++ c) (b ++ d) = true
  | [], [], _, _, _, h => h
  | [], _ :: _, _, _, h, _ => by simp [sameDs] at h
  | _ :: _, [], _, _, h, _ => by simp [sameDs] at h
  | x :: a, y :: b, c, d, h, h' => by
    simp only [sameDs, List.cons_append, Bool.and_eq_true] at h ⊢
    exact ⟨h.1, sameDs_app a b c d h.2 h'⟩
theorem cntBs_app : ∀ a b : List B, cntBs (a ++ b) = cntBs a + cntBs b
  | [], b => by simp [cntBs]
  | x :: a, b => by simp only [List.cons_append, cntBs, cntBs_app a b]; omega
mutual
theorem cntE_moved (g : Nat → Nat) : ∀ x : E, cntE (reE g x) = cntE x
  | .mk k a n m ts bs ks as => by
    have h1 := cntBs_moved g bs
    have h2 := cntK_moved g ks
    have h3 := cntAs_moved g as
    simp only [reE, cntE, h1, h2, h3]
theorem cntB_moved (g : Nat → Nat) : ∀ x : B, cntB (reB g x) = cntB x
  | .mk n a as x => by simp only [reB, cntB, cntE_moved g x]
theorem cntA_moved (g : Nat → Nat) : ∀ x : A, cntA (reA g x) = cntA x
  | .mk k a n m vs x => by simp only [reA, cntA, cntE_moved g x]
theorem cntK_moved (g : Nat → Nat) : ∀ x : List E, cntK (reEs g x) = cntK x
  | [] => by simp [reEs, cntK]
  | x :: r => by simp only [reEs, cntK, cntE_moved g x]
theorem cntBs_moved (g : Nat → Nat) : ∀ x : List B, cntBs (reBs g x) = cntBs x
  | [] => by simp [reBs, cntBs]
  | x :: r => by simp only [reBs, cntBs, cntB_moved g x, cntBs_moved g r]
theorem cntAs_moved (g : Nat → Nat) : ∀ x : List A, cntAs (reAs g x) = cntAs x
  | [] => by simp [reAs, cntAs]
  | x :: r => by simp only [reAs, cntAs, cntA_moved g x, cntAs_moved g r]
end

end Go.Proofs.YtoedeedoecdajaaDoor
