/- Layer 6 (tree), made ready ahead of its landing: what a text's tree is, as functions of lists of tokens: the plain side, of no program. -/
import Derived.Test.YtbajpejnnfacbaaGreatDoorPure
namespace Go.Proofs.YtbajpejnnfacbaaGreatDoor

structure Atm where
  name : List UInt8
  num : Int
mutual
/-- an expression, a bind, an alternative: all fields, whatever the kind -/
inductive E where
  | mk (kind at' : Int) (name : List UInt8) (num : Int) (atoms : List Atm) (binds : List B) (kids : List E) (alts : List A) : E
inductive B where
  | mk (name : List UInt8) (at' : Int) (args : List (List UInt8)) (body : E) : B
inductive A where
  | mk (kind at' : Int) (name : List UInt8) (num : Int) (vars : List (List UInt8)) (body : E) : A
end
structure D where
  name : List UInt8
  arity : Int
  at' : Int
structure Pg where
  datas : List D
  binds : List B

/-- what a part of the grammar answers: a part and the tokens behind it; or the fault and the tokens from there on -/
abbrev PR (α : Type) := Except (Int × List Tok) (α × List Tok)
def andT {α β : Type} (p : PR α) (f : α → List Tok → PR β) : PR β :=
  match p with
  | .ok (a, r) => f a r
  | .error e => .error e
def pKind (k : Int) : List Tok → PR Tok
  | [] => .error (23, [])
  | t :: r => if t.kind = k then .ok (t, r) else .error (23, t :: r)
def isS (s : List UInt8) : List Tok → Bool
  | [] => false
  | t :: _ => (t.kind == 5 || t.kind == 6) && t.text == s
def pWant (s : List UInt8) (l : List Tok) : PR Unit := if isS s l then .ok ((), l.tail) else .error (23, l)
def pNames : List Tok → List (List UInt8) × List Tok
  | [] => ([], [])
  | t :: r => if t.kind = 1 then (t.text :: (pNames r).1, (pNames r).2) else ([], t :: r)
def pAtoms : List Tok → List Atm × List Tok
  | [] => ([], [])
  | t :: r => if t.kind = 1 ∨ t.kind = 4 then (⟨t.text, t.num⟩ :: (pAtoms r).1, (pAtoms r).2) else ([], t :: r)
def pArgs (l : List Tok) : PR (List (List UInt8)) :=
  if isS [92] l then andT (pKind 1 l.tail) fun t r => andT (pWant [45, 62] (pNames r).2) fun _ r2 => .ok (t.text :: (pNames r).1, r2) else .ok ([], l)
def pBind (ex : List Tok → PR E) (l : List Tok) : PR B :=
  andT (pKind 1 l) fun t r => andT (pWant [61] r) fun _ r => andT (pArgs r) fun as r => andT (ex r) fun x r => andT (pWant [59] r) fun _ r => .ok (.mk t.text t.at' as x, r)
/-- the beginning of an alternative: its kind, place, name, number, names -/
def pHead : List Tok → PR (Int × Int × List UInt8 × Int × List (List UInt8))
  | [] => .error (23, [])
  | t :: r =>
    if t.kind = 2 then .ok ((1, t.at', t.text, 0, (pNames r).1), (pNames r).2)
    else if t.kind = 4 then .ok ((2, t.at', [], t.num, []), r)
    else if t.kind = 1 then .ok ((3, t.at', t.text, 0, []), r)
    else .error (23, t :: r)
def pAlt (ex : List Tok → PR E) (l : List Tok) : PR A :=
  andT (pHead l) fun h r => andT (pWant [45, 62] r) fun _ r => andT (ex r) fun x r => andT (pWant [59] r) fun _ r => .ok (.mk h.1 h.2.1 h.2.2.1 h.2.2.2.1 h.2.2.2.2 x, r)
/-- one or more, and the brace behind them -/
def manyF {α : Type} (one : List Tok → PR α) : Nat → List Tok → PR (List α)
  | 0, l => .error (23, l)
  | n + 1, l => andT (one l) fun x r => if isS [125] r then .ok ([x], r.tail) else andT (manyF one n r) fun xs r => .ok (x :: xs, r)
def many {α : Type} (one : List Tok → PR α) (l : List Tok) : PR (List α) := manyF one (l.length + 1) l
/-- an expression; the number: how much deeper it may go -/
def pExp : Nat → List Tok → PR E
  | 0, [] => .error (23, [])
  | 0, t :: r => .error (24, t :: r)
  | _ + 1, [] => .error (23, [])
  | d + 1, t :: r =>
    if t.kind = 4 then .ok (.mk 4 t.at' [] t.num [] [] [] [], r)
    else if t.kind = 1 ∨ t.kind = 2 ∨ t.kind = 3 then .ok (.mk t.kind t.at' t.text 0 (pAtoms r).1 [] [] [], (pAtoms r).2)
    else if isS [108, 101, 116] (t :: r) then
      andT (pWant [123] r) fun _ r => andT (many (pBind (pExp d)) r) fun bs r => andT (pWant [105, 110] r) fun _ r => andT (pExp d r) fun x r => .ok (.mk 5 t.at' [] 0 [] bs [x] [], r)
    else if isS [99, 97, 115, 101] (t :: r) then
      andT (pExp d r) fun x r => andT (pWant [111, 102] r) fun _ r => andT (pWant [123] r) fun _ r => andT (many (pAlt (pExp d)) r) fun as r => .ok (.mk 6 t.at' [] 0 [] [] [x] as, r)
    else if isS [40] (t :: r) then andT (pExp d r) fun x r => andT (pWant [41] r) fun _ r => .ok (x, r)
    else .error (23, t :: r)
def pData (l : List Tok) : PR D :=
  andT (pKind 2 l) fun c r => andT (pKind 4 r) fun n r => andT (pWant [59] r) fun _ r => .ok (⟨c.text, n.num, c.at'⟩, r)
def pDatas : Nat → List Tok → PR (List D)
  | 0, l => .ok ([], l)
  | n + 1, l => if isS [100, 97, 116, 97] l then andT (pData l.tail) fun d r => andT (pDatas n r) fun ds r => .ok (d :: ds, r) else .ok ([], l)
def pBinds : Nat → List Tok → PR (List B)
  | 0, l => .ok ([], l)
  | _ + 1, [] => .ok ([], [])
  | n + 1, t :: r => andT (pBind (pExp 60) (t :: r)) fun b r => andT (pBinds n r) fun bs r => .ok (b :: bs, r)
def pProg (l : List Tok) : PR Pg :=
  andT (pDatas (l.length + 1) l) fun ds r => andT (pBinds (r.length + 1) r) fun bs r => .ok (⟨ds, bs⟩, r)
/-- the place of what is left: its first token's, or the text's end -/
def placeT (n : Nat) : List Tok → Nat
  | [] => n
  | t :: _ => t.at'
def parseT (s : List UInt8) : Except (Nat × Int) Pg :=
  match scanAll s with
  | .error e => .error e
  | .ok ts =>
    match pProg ts with
    | .ok (p, _) => .ok p
    | .error (e, r) => .error (placeT s.length r, e)

/-! ## What is left is shorter -/
def Eats {α : Type} (p : List Tok → PR α) : Prop := ∀ l a r, p l = .ok (a, r) → r.length < l.length
theorem andT_ok {α β : Type} {p : PR α} {f : α → List Tok → PR β} {b : β} {r : List Tok} (h : andT p f = .ok (b, r)) : ∃ a r1, p = .ok (a, r1) ∧ f a r1 = .ok (b, r) := by
  unfold andT at h
  split at h
  · exact ⟨_, _, rfl, h⟩
  · cases h
theorem pKind_eats {k : Int} {l r : List Tok} {t : Tok} (h : pKind k l = .ok (t, r)) : l = t :: r ∧ t.kind = k := by
  cases l with
  | nil => cases h
  | cons u q =>
    simp only [pKind] at h
    split at h
    · cases h; exact ⟨rfl, by assumption⟩
    · cases h
theorem pWant_eats {s : List UInt8} {l r : List Tok} {u : Unit} (h : pWant s l = .ok (u, r)) : isS s l = true ∧ ∃ t, l = t :: r := by
  unfold pWant at h
  split at h
  · rename_i hs
    cases l with
    | nil => cases hs
    | cons t q => cases h; exact ⟨hs, t, rfl⟩
  · cases h
theorem pNames_le : ∀ l : List Tok, (pNames l).2.length ≤ l.length
  | [] => Nat.le_refl _
  | t :: r => by
    unfold pNames
    have := pNames_le r
    split <;> simp only [List.length_cons] <;> omega
theorem pAtoms_le : ∀ l : List Tok, (pAtoms l).2.length ≤ l.length
  | [] => Nat.le_refl _
  | t :: r => by
    unfold pAtoms
    have := pAtoms_le r
    split <;> simp only [List.length_cons] <;> omega
theorem pArgs_le {l r : List Tok} {as : List (List UInt8)} (h : pArgs l = .ok (as, r)) : r.length ≤ l.length := by
  unfold pArgs at h
  split at h
  · obtain ⟨t, r1, h1, h⟩ := andT_ok h
    obtain ⟨u, r2, h2, h⟩ := andT_ok h
    obtain ⟨e1, _⟩ := pKind_eats h1
    obtain ⟨_, v, e2⟩ := pWant_eats h2
    cases h
    have a := pNames_le r1
    have b := congrArg List.length e1
    have c := congrArg List.length e2
    simp only [List.length_cons, List.length_tail] at b c
    omega
  · cases h; exact Nat.le_refl _
theorem pBind_eats {ex : List Tok → PR E} (he : ∀ l a r, ex l = .ok (a, r) → r.length ≤ l.length) : Eats (pBind ex) := fun l a r h => by
  unfold pBind at h
  obtain ⟨t, r1, h1, h⟩ := andT_ok h
  obtain ⟨_, r2, h2, h⟩ := andT_ok h
  obtain ⟨as, r3, h3, h⟩ := andT_ok h
  obtain ⟨x, r4, h4, h⟩ := andT_ok h
  obtain ⟨_, r5, h5, h⟩ := andT_ok h
  obtain ⟨e1, _⟩ := pKind_eats h1
  obtain ⟨_, v, e2⟩ := pWant_eats h2
  obtain ⟨_, v', e5⟩ := pWant_eats h5
  have a3 := pArgs_le h3
  have a4 := he _ _ _ h4
  cases h
  subst e1 e2 e5
  simp only [List.length_cons] at *
  omega
theorem pHead_eats {l r : List Tok} {a} (h : pHead l = .ok (a, r)) : r.length < l.length := by
  cases l with
  | nil => cases h
  | cons t q =>
    simp only [pHead] at h
    have := pNames_le q
    split at h
    · cases h; simp only [List.length_cons]; omega
    · split at h
      · cases h; simp only [List.length_cons]; omega
      · split at h
        · cases h; simp only [List.length_cons]; omega
        · cases h
theorem pAlt_eats {ex : List Tok → PR E} (he : ∀ l a r, ex l = .ok (a, r) → r.length ≤ l.length) : Eats (pAlt ex) := fun l a r h => by
  unfold pAlt at h
  obtain ⟨t, r1, h1, h⟩ := andT_ok h
  obtain ⟨_, r2, h2, h⟩ := andT_ok h
  obtain ⟨x, r4, h4, h⟩ := andT_ok h
  obtain ⟨_, r5, h5, h⟩ := andT_ok h
  have a1 := pHead_eats h1
  obtain ⟨_, v, e2⟩ := pWant_eats h2
  obtain ⟨_, v', e5⟩ := pWant_eats h5
  have a4 := he _ _ _ h4
  cases h
  subst e2 e5
  simp only [List.length_cons] at *
  omega
theorem manyF_eats {α : Type} {one : List Tok → PR α} (ho : Eats one) : ∀ n, Eats (manyF one n)
  | 0 => fun l a r h => by cases h
  | n + 1 => fun l a r h => by
    unfold manyF at h
    obtain ⟨x, r1, h1, h⟩ := andT_ok h
    have a1 := ho _ _ _ h1
    split at h
    · cases h; simp only [List.length_tail]; omega
    · obtain ⟨xs, r2, h2, h⟩ := andT_ok h
      have a2 := manyF_eats ho n _ _ _ h2
      cases h; omega
theorem manyF_more {α : Type} {one : List Tok → PR α} (ho : Eats one) : ∀ n l, l.length < n → manyF one n l = manyF one (l.length + 1) l
  | 0, _, h => absurd h (Nat.not_lt_zero _)
  | n + 1, l, h => by
    unfold manyF
    rcases e : one l with x | ⟨x, r⟩
    · rfl
    · have a1 := ho _ _ _ e
      simp only [andT]
      split
      · rfl
      · rw [manyF_more ho n r (by omega)]
        rcases Nat.lt_or_ge l.length 1 with z | z
        · omega
        · have := manyF_more ho l.length r (by omega)
          rw [this]
theorem many_step {α : Type} {one : List Tok → PR α} (ho : Eats one) (l : List Tok) : many one l = andT (one l) fun x r => if isS [125] r then .ok ([x], r.tail) else andT (many one r) fun xs r => .ok (x :: xs, r) := by
  conv => lhs; unfold many manyF
  rcases e : one l with x | ⟨x, r⟩
  · rfl
  · have a1 := ho _ _ _ e
    simp only [andT]
    split
    · rfl
    · rw [manyF_more ho l.length r (by omega)]
      rfl
theorem pExp_eats : ∀ d, Eats (pExp d)
  | 0 => fun l a r h => by cases l <;> cases h
  | d + 1 => fun l a r h => by
    have ih := pExp_eats d
    have il : ∀ l a r, pExp d l = .ok (a, r) → r.length ≤ l.length := fun l a r h => Nat.le_of_lt (ih l a r h)
    cases l with
    | nil => cases h
    | cons t q =>
      unfold pExp at h
      split at h
      · cases h; simp
      · split at h
        · cases h; have := pAtoms_le q; simp only [List.length_cons]; omega
        · split at h
          · obtain ⟨_, r1, h1, h⟩ := andT_ok h
            obtain ⟨bs, r2, h2, h⟩ := andT_ok h
            obtain ⟨_, r3, h3, h⟩ := andT_ok h
            obtain ⟨x, r4, h4, h⟩ := andT_ok h
            obtain ⟨_, v1, e1⟩ := pWant_eats h1
            obtain ⟨_, v3, e3⟩ := pWant_eats h3
            have a2 := manyF_eats (pBind_eats il) _ _ _ _ h2
            have a4 := ih _ _ _ h4
            cases h
            subst e1 e3
            simp only [List.length_cons] at *
            omega
          · split at h
            · obtain ⟨x, r1, h1, h⟩ := andT_ok h
              obtain ⟨_, r2, h2, h⟩ := andT_ok h
              obtain ⟨_, r3, h3, h⟩ := andT_ok h
              obtain ⟨as, r4, h4, h⟩ := andT_ok h
              obtain ⟨_, v2, e2⟩ := pWant_eats h2
              obtain ⟨_, v3, e3⟩ := pWant_eats h3
              have a1 := ih _ _ _ h1
              have a4 := manyF_eats (pAlt_eats il) _ _ _ _ h4
              cases h
              subst e2 e3
              simp only [List.length_cons] at *
              omega
            · split at h
              · obtain ⟨x, r1, h1, h⟩ := andT_ok h
                obtain ⟨_, r2, h2, h⟩ := andT_ok h
                obtain ⟨_, v2, e2⟩ := pWant_eats h2
                have a1 := ih _ _ _ h1
                cases h
                subst e2
                simp only [List.length_cons] at *
                omega
              · cases h
theorem bind_eats (d : Nat) : Eats (pBind (pExp d)) := pBind_eats fun l a r h => Nat.le_of_lt (pExp_eats d l a r h)
theorem alt_eats (d : Nat) : Eats (pAlt (pExp d)) := pAlt_eats fun l a r h => Nat.le_of_lt (pExp_eats d l a r h)

end Go.Proofs.YtbajpejnnfacbaaGreatDoor
