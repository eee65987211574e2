/- Layer 7 (show): which tokens a program has, there and back: of no program. -/
import Derived.Test.YtofgnpehlheeiaaGreatDoorBack
import Derived.Test.YtofgnpehlheeiaaGreatDoorTreeBlanks
import Derived.Test.YtofgnpehlheeiaaGreatDoorTreeGood
namespace Go.Proofs.YtofgnpehlheeiaaGreatDoor
set_option linter.unusedVariables false
set_option linter.unusedSimpArgs false

abbrev sgT (s : List UInt8) : ATok := ⟨5, s, 0, 0⟩
abbrev wdT (s : List UInt8) : ATok := ⟨6, s, 0, 0⟩
abbrev nuT (n : Int) : ATok := ⟨4, [], n, 0⟩
abbrev naT (k : Int) (s : List UInt8) : ATok := ⟨k, s, 0, 0⟩
abbrev OT := Except Int (List ATok)
def seqO (a b : OT) : OT :=
  match a with
  | .ok x => (match b with
    | .ok y => .ok (x ++ y)
    | .error e => .error e)
  | .error e => .error e
def oName (k : Int) (s : List UInt8) : OT := if wordB s k then .ok [naT k s] else .error 2
def oNames : List (List UInt8) → OT
  | [] => .ok []
  | s :: r => seqO (oName 1 s) (oNames r)
def oAtom (a : Atm) : OT := if a.name = [] then .ok [nuT a.num] else oName 1 a.name
def oAtoms : List Atm → OT
  | [] => .ok []
  | a :: r => seqO (oAtom a) (oAtoms r)
def oL {α : Type} (f : α → OT) : List α → OT
  | [] => .ok []
  | a :: r => seqO (f a) (oL f r)
def oData (d : D) : OT := seqO (.ok [wdT [100, 97, 116, 97]]) (seqO (oName 2 d.name) (.ok [nuT d.arity, sgT [59]]))
def oArgs (as : List (List UInt8)) : OT := if as = [] then .ok [] else seqO (.ok [sgT [92]]) (seqO (oNames as) (.ok [sgT [45, 62]]))
def oB (ex : E → OT) : B → OT
  | .mk n _ as x => seqO (oName 1 n) (seqO (.ok [sgT [61]]) (seqO (oArgs as) (seqO (ex x) (.ok [sgT [59]]))))
def oHead (k : Int) (n : List UInt8) (m : Int) (vs : List (List UInt8)) : OT :=
  if k = 1 then seqO (oName 2 n) (oNames vs) else if k = 2 then .ok [nuT m] else if k = 3 then oName 1 n else .error 2
def oA (ex : E → OT) : A → OT
  | .mk k _ n m vs x => seqO (oHead k n m vs) (seqO (.ok [sgT [45, 62]]) (seqO (ex x) (.ok [sgT [59]])))
def oK (ex : E → OT) : List E → OT
  | [] => .error 2
  | x :: _ => ex x
/-- an expression's tokens; the number: how much deeper it may go -/
def oE : Nat → E → OT
  | 0, _ => .error 24
  | d + 1, .mk k _ n m ts bs ks as =>
    if k = 1 ∨ k = 2 ∨ k = 3 then seqO (oName k n) (oAtoms ts)
    else if k = 4 then .ok [nuT m]
    else if k = 5 then (if bs = [] ∨ ks = [] then .error 2 else seqO (.ok [wdT [108, 101, 116], sgT [123]]) (seqO (oL (oB (oE d)) bs) (seqO (.ok [sgT [125], wdT [105, 110]]) (oK (oE d) ks))))
    else if k = 6 then (if ks = [] ∨ as = [] then .error 2 else seqO (.ok [wdT [99, 97, 115, 101]]) (seqO (oK (oE d) ks) (seqO (.ok [wdT [111, 102], sgT [123]]) (seqO (oL (oA (oE d)) as) (.ok [sgT [125]])))))
    else .error 2
/-- the tokens of each data and each bind -/
def oLs {α : Type} (f : α → OT) : List α → Except Int (List (List ATok))
  | [] => .ok []
  | a :: r =>
    match f a with
    | .ok x => (match oLs f r with
      | .ok y => .ok (x :: y)
      | .error e => .error e)
    | .error e => .error e
def oP (p : Pg) : OT := seqO (oL oData p.datas) (oL (oB (oE 60)) p.binds)

theorem seqO_ok {a b : OT} {l : List ATok} (h : seqO a b = .ok l) : ∃ x y, a = .ok x ∧ b = .ok y ∧ l = x ++ y := by
  rcases a with e | x
  · cases h
  · rcases b with e | y
    · cases h
    · cases h; exact ⟨x, y, rfl, rfl, rfl⟩
theorem oName_ok {k : Int} {s : List UInt8} {l : List ATok} (h : oName k s = .ok l) : l = [naT k s] ∧ wordB s k = true := by
  unfold oName at h
  split at h
  · cases h; exact ⟨rfl, by assumption⟩
  · cases h
theorem word_kind {k : Int} {s : List UInt8} (h : wordB s k = true) : (k = 1 ∨ k = 2 ∨ k = 3) ∧ justT s k = true := by
  simp only [wordB, Bool.and_eq_true, Bool.or_eq_true, decide_eq_true_eq] at h
  exact h
theorem word_ne {k : Int} {s : List UInt8} (h : wordB s k = true) : s ≠ [] := fun e => by
  subst e
  have := (word_kind h).2
  exact absurd this (by simp [justT, readT, one])

/-! ## tokens that were read, held against tokens that are told -/
def Like (l : List Tok) (ts : List ATok) : Prop := l.map three = ts.map nameT
theorem like_app {l : List Tok} {a b : List ATok} (h : Like l (a ++ b)) : ∃ x y, l = x ++ y ∧ Like x a ∧ Like y b := by
  unfold Like at h ⊢
  rw [List.map_append] at h
  have := List.map_eq_append_iff.1 h
  obtain ⟨x, y, e1, e2, e3⟩ := this
  exact ⟨x, y, e1, e2, e3⟩
theorem like_nil {l : List Tok} (h : Like l []) : l = [] := by
  unfold Like at h
  simpa using h
theorem like_cons {l : List Tok} {a : ATok} {r : List ATok} (h : Like l (a :: r)) : ∃ t q, l = t :: q ∧ three t = nameT a ∧ Like q r := by
  cases l with
  | nil => simp [Like] at h
  | cons t q =>
    simp only [Like, List.map_cons, List.cons.injEq] at h
    exact ⟨t, q, rfl, h.1, h.2⟩
theorem like_one {l : List Tok} {a : ATok} (h : Like l [a]) : ∃ t, l = [t] ∧ three t = nameT a := by
  obtain ⟨t, q, rfl, e, h⟩ := like_cons h
  rw [like_nil h]
  exact ⟨t, rfl, e⟩
theorem three_na {t : Tok} {k : Int} {s : List UInt8} (hk : k ≠ 4) (h : three t = nameT (naT k s)) : t.kind = k ∧ t.text = s ∧ t.num = 0 := by
  simp only [nameT, if_neg hk, three, T3.mk.injEq] at h
  exact h
theorem three_nu {t : Tok} {n : Int} (h : three t = nameT (nuT n)) : t.kind = 4 ∧ t.text = [] ∧ t.num = n := by
  simp only [nameT, if_pos, three, T3.mk.injEq] at h
  exact h
/-- what comes behind is no atom -/
def stop : List Tok → Prop
  | [] => True
  | t :: _ => t.kind ≠ 1 ∧ t.kind ≠ 4
theorem isS_mark {t : Tok} {s : List UInt8} {k : Int} (hk : k = 5 ∨ k = 6) (h : three t = nameT (naT k s)) (r : List Tok) : isS s (t :: r) = true ∧ stop (t :: r) := by
  obtain ⟨a, b, _⟩ := three_na (by omega) h
  rcases hk with rfl | rfl <;> simp [isS, stop, a, b]
theorem want_mark {t : Tok} {s : List UInt8} {k : Int} (hk : k = 5 ∨ k = 6) (h : three t = nameT (naT k s)) (r : List Tok) : pWant s (t :: r) = .ok ((), r) := by
  unfold pWant
  rw [(isS_mark hk h r).1]
  rfl
theorem kind_na {t : Tok} {s : List UInt8} {k : Int} (hk : k ≠ 4) (h : three t = nameT (naT k s)) (r : List Tok) : pKind k (t :: r) = .ok (t, r) := by
  simp [pKind, (three_na hk h).1]

theorem back_names : ∀ (ns : List (List UInt8)) (ts : List ATok), oNames ns = .ok ts → ∀ (l R : List Tok), Like l ts → stop R → pNames (l ++ R) = (ns, R)
  | [], ts, h, l, R, hl, hR => by
    cases h
    rw [like_nil hl, List.nil_append]
    cases R with
    | nil => rfl
    | cons t r => simp [pNames, hR.1]
  | s :: r, ts, h, l, R, hl, hR => by
    obtain ⟨x, y, h1, h2, rfl⟩ := seqO_ok h
    obtain ⟨rfl, hw⟩ := oName_ok h1
    obtain ⟨t, q, rfl, e, hq⟩ := like_cons hl
    obtain ⟨a, b, _⟩ := three_na (by decide) e
    have ih := back_names r y h2 q R hq hR
    simp [pNames, a, b, ih]
theorem back_atoms : ∀ (as : List Atm) (ts : List ATok), oAtoms as = .ok ts → ∀ (l R : List Tok), Like l ts → stop R → ∃ bs, pAtoms (l ++ R) = (bs, R) ∧ sameAtm as bs = true
  | [], ts, h, l, R, hl, hR => by
    cases h
    rw [like_nil hl, List.nil_append]
    refine ⟨[], ?_, rfl⟩
    cases R with
    | nil => rfl
    | cons t r => simp [pAtoms, hR.1, hR.2]
  | a :: r, ts, h, l, R, hl, hR => by
    obtain ⟨x, y, h1, h2, rfl⟩ := seqO_ok h
    unfold oAtom at h1
    split at h1
    · rename_i hn
      cases h1
      obtain ⟨t, q, rfl, e, hq⟩ := like_cons hl
      obtain ⟨a1, b1, c1⟩ := three_nu e
      obtain ⟨bs, ih, hs⟩ := back_atoms r y h2 q R hq hR
      exact ⟨⟨t.text, t.num⟩ :: bs, by simp [pAtoms, a1, ih], by simp [sameAtm, hn, b1, c1, hs]⟩
    · rename_i hn
      obtain ⟨rfl, hw⟩ := oName_ok h1
      obtain ⟨t, q, rfl, e, hq⟩ := like_cons hl
      obtain ⟨a1, b1, c1⟩ := three_na (by decide) e
      obtain ⟨bs, ih, hs⟩ := back_atoms r y h2 q R hq hR
      exact ⟨⟨t.text, t.num⟩ :: bs, by simp [pAtoms, a1, ih], by simp [sameAtm, hn, b1, hs]⟩
/-- there and back, of a part -/
def Back {α : Type} (o : α → OT) (p : List Tok → PR α) (same : α → α → Bool) : Prop :=
  ∀ x ts, o x = .ok ts → ∀ (l R : List Tok), Like l ts → stop R → ∃ y, p (l ++ R) = .ok (y, R) ∧ same x y = true
/-- .. whatever comes behind -/
def BackW {α : Type} (o : α → OT) (p : List Tok → PR α) (same : α → α → Bool) : Prop :=
  ∀ x ts, o x = .ok ts → ∀ (l R : List Tok), Like l ts → ∃ y, p (l ++ R) = .ok (y, R) ∧ same x y = true
theorem back_args (as : List (List UInt8)) (ts : List ATok) (h : oArgs as = .ok ts) (l R : List Tok) (hl : Like l ts) (hR : isS [92] R = false) : pArgs (l ++ R) = .ok (as, R) := by
  unfold oArgs at h
  split at h
  · rename_i e
    cases h
    rw [like_nil hl, List.nil_append, e]
    unfold pArgs
    rw [hR]
    rfl
  · rename_i e
    obtain ⟨x, y, h1, h2, rfl⟩ := seqO_ok h
    obtain ⟨z, u, h3, h4, rfl⟩ := seqO_ok h2
    cases h1; cases h4
    simp only [List.cons_append, List.nil_append] at hl
    obtain ⟨t, q, rfl, e1, hq⟩ := like_cons hl
    obtain ⟨m, q2, rfl, hm, hq2⟩ := like_app hq
    obtain ⟨t2, rfl, e2⟩ := like_one hq2
    cases as with
    | nil => exact absurd rfl e
    | cons s r =>
      obtain ⟨x3, y3, h5, h6, rfl⟩ := seqO_ok h3
      obtain ⟨rfl, hw⟩ := oName_ok h5
      obtain ⟨t3, q3, rfl, e3, hq3⟩ := like_cons hm
      have i1 := isS_mark (.inl rfl) e1 ((t3 :: q3) ++ [t2] ++ R)
      have i2 := isS_mark (.inl rfl) e2 R
      have nm := back_names r y3 h6 q3 (t2 :: R) hq3 i2.2
      have w2 := want_mark (.inl rfl) e2 R
      have k3 := kind_na (by decide) e3 (q3 ++ (t2 :: R))
      obtain ⟨_, b3, _⟩ := three_na (by decide) e3
      unfold pArgs
      simp only [List.cons_append, List.append_assoc, List.nil_append] at i1 ⊢
      rw [i1.1]
      simp only [if_true, List.tail_cons, k3, andT, nm, w2, b3]
/-- no argument's sign begins an expression -/
theorem head_E : ∀ d x ts, oE d x = .ok ts → ∃ a r, ts = a :: r ∧ (a.kind = 1 ∨ a.kind = 2 ∨ a.kind = 3 ∨ a.kind = 4 ∨ a.kind = 6)
  | 0, x, ts, h => by cases h
  | d + 1, .mk k a n m at' bs ks as, ts, h => by
    unfold oE at h
    split at h
    · rename_i hk
      obtain ⟨x, y, h1, h2, rfl⟩ := seqO_ok h
      obtain ⟨rfl, _⟩ := oName_ok h1
      exact ⟨_, _, rfl, by simp only; omega⟩
    · split at h
      · cases h; exact ⟨_, _, rfl, by simp⟩
      · split at h
        · split at h
          · cases h
          · obtain ⟨x, y, h1, h2, rfl⟩ := seqO_ok h
            cases h1
            exact ⟨_, _, rfl, by simp⟩
        · split at h
          · split at h
            · cases h
            · obtain ⟨x, y, h1, h2, rfl⟩ := seqO_ok h
              cases h1
              exact ⟨_, _, rfl, by simp⟩
          · cases h
theorem like_head {l : List Tok} {a : ATok} {r : List ATok} (h : Like l (a :: r)) (hk : a.kind = 1 ∨ a.kind = 2 ∨ a.kind = 3 ∨ a.kind = 4 ∨ a.kind = 6) (R : List Tok) : ∃ t q, l = t :: q ∧ t.kind = a.kind := by
  obtain ⟨t, q, rfl, e, _⟩ := like_cons h
  refine ⟨t, q, rfl, ?_⟩
  have e' := congrArg T3.kind e
  unfold nameT three at e'
  split at e'
  · rename_i z
    exact e'.trans z.symm
  · exact e'
theorem isS_other {t : Tok} {r : List Tok} (h : t.kind = 1 ∨ t.kind = 2 ∨ t.kind = 3 ∨ t.kind = 4) (s : List UInt8) : isS s (t :: r) = false := by
  rcases h with z | z | z | z <;> simp [isS, z]
theorem back_B (d : Nat) (hE : Back (oE d) (pExp d) sameE) : BackW (oB (oE d)) (pBind (pExp d)) sameB := fun x ts h l R hl => by
  obtain ⟨n, a, as, x⟩ := x
  unfold oB at h
  obtain ⟨x1, y1, h1, g1, rfl⟩ := seqO_ok h
  obtain ⟨x2, y2, h2, g2, rfl⟩ := seqO_ok g1
  obtain ⟨x3, y3, h3, g3, rfl⟩ := seqO_ok g2
  obtain ⟨x4, y4, h4, h5, rfl⟩ := seqO_ok g3
  clear h g1 g2 g3
  cases h2; cases h5
  obtain ⟨rfl, hw⟩ := oName_ok h1
  simp only [List.cons_append, List.nil_append] at hl
  obtain ⟨t1, q1, rfl, e1, hq⟩ := like_cons hl
  obtain ⟨t2, q2, rfl, e2, hq⟩ := like_cons hq
  obtain ⟨l3, q3, rfl, e3, hq⟩ := like_app hq
  obtain ⟨l4, q4, rfl, e4, hq⟩ := like_app hq
  obtain ⟨t5, rfl, e5⟩ := like_one hq
  have i5 := isS_mark (.inl rfl) e5 R
  obtain ⟨y, hy, hs⟩ := hE x x4 h4 l4 (t5 :: R) e4 i5.2
  have ha : isS [92] (l4 ++ (t5 :: R)) = false := by
    obtain ⟨a0, r0, rfl, k0⟩ := head_E d x x4 h4
    obtain ⟨t, q, rfl, e⟩ := like_head e4 k0 R
    rw [List.cons_append]
    rw [← e] at k0
    rcases k0 with z | z | z | z | z
    · exact isS_other (.inl z) _
    · exact isS_other (.inr (.inl z)) _
    · exact isS_other (.inr (.inr (.inl z))) _
    · exact isS_other (.inr (.inr (.inr z))) _
    · obtain ⟨t', q', e6, e7, _⟩ := like_cons e4
      cases e6
      have := three_na (k := 6) (by decide) (s := a0.text) (t := t) (by
        rw [e7]
        unfold nameT
        rw [e] at z
        simp [z])
      simp only [isS, this.1, this.2.1]
      have hx : ∀ d x ts, oE d x = .ok ts → ∀ a r, ts = a :: r → a.kind = 6 → a.text ≠ [92] := by
        intro d x ts h a r e hk
        cases d with
        | zero => cases h
        | succ d =>
          obtain ⟨k, a', n, m, at', bs, ks, as⟩ := x
          unfold oE at h
          split at h
          · rename_i hkk
            obtain ⟨x, y, h1, h2, rfl⟩ := seqO_ok h
            obtain ⟨rfl, _⟩ := oName_ok h1
            cases e
            simp only at hk
            omega
          · split at h
            · cases h; cases e; simp at hk
            · split at h
              · split at h
                · cases h
                · obtain ⟨x, y, h1, h2, rfl⟩ := seqO_ok h
                  cases h1; cases e; simp
              · split at h
                · split at h
                  · cases h
                  · obtain ⟨x, y, h1, h2, rfl⟩ := seqO_ok h
                    cases h1; cases e; simp
                · cases h
      have hne := hx d x _ h4 a0 r0 rfl (by rw [← e]; exact z)
      simp [hne]
  have hargs := back_args as x3 h3 l3 (l4 ++ (t5 :: R)) e3 ha
  have k1 := kind_na (by decide) e1 (t2 :: (l3 ++ (l4 ++ (t5 :: R))))
  have w2 := want_mark (.inl rfl) e2 (l3 ++ (l4 ++ (t5 :: R)))
  have w5 := want_mark (.inl rfl) e5 R
  obtain ⟨_, b1, _⟩ := three_na (by decide) e1
  refine ⟨.mk n t1.at' as y, ?_, by simp [sameB, hs]⟩
  unfold pBind
  simp only [List.cons_append, List.append_assoc, List.nil_append, k1, w2, hargs, hy, w5, andT, b1]
theorem back_A (d : Nat) (hE : Back (oE d) (pExp d) sameE) : BackW (oA (oE d)) (pAlt (pExp d)) sameA := fun x ts h l R hl => by
  obtain ⟨k, a, n, m, vs, x⟩ := x
  unfold oA at h
  obtain ⟨x1, y1, h1, g1, rfl⟩ := seqO_ok h
  obtain ⟨x2, y2, h2, g2, rfl⟩ := seqO_ok g1
  obtain ⟨x4, y4, h4, h5, rfl⟩ := seqO_ok g2
  clear h g1 g2
  cases h2; cases h5
  simp only [List.cons_append, List.nil_append] at hl
  obtain ⟨l1, q1, rfl, e1, hq⟩ := like_app hl
  obtain ⟨t2, q2, rfl, e2, hq⟩ := like_cons hq
  obtain ⟨l4, q4, rfl, e4, hq⟩ := like_app hq
  obtain ⟨t5, rfl, e5⟩ := like_one hq
  have i5 := isS_mark (.inl rfl) e5 R
  have i2 := isS_mark (.inl rfl) e2 (l4 ++ (t5 :: R))
  obtain ⟨y, hy, hs⟩ := hE x x4 h4 l4 (t5 :: R) e4 i5.2
  have w2 := want_mark (.inl rfl) e2 (l4 ++ (t5 :: R))
  have w5 := want_mark (.inl rfl) e5 R
  have H : ∃ z : Int × Int × List UInt8 × Int × List (List UInt8), pHead (l1 ++ (t2 :: (l4 ++ (t5 :: R)))) = .ok (z, t2 :: (l4 ++ (t5 :: R))) ∧ sameA (.mk k a n m vs x) (.mk z.1 z.2.1 z.2.2.1 z.2.2.2.1 z.2.2.2.2 y) = true := by
    unfold oHead at h1
    split at h1
    · rename_i hk
      obtain ⟨x6, y6, h6, h7, rfl⟩ := seqO_ok h1
      obtain ⟨rfl, hw⟩ := oName_ok h6
      obtain ⟨t6, q6, rfl, e6, hq6⟩ := like_cons e1
      obtain ⟨a6, b6, _⟩ := three_na (by decide) e6
      have nm := back_names vs y6 h7 q6 (t2 :: (l4 ++ (t5 :: R))) hq6 i2.2
      refine ⟨(1, t6.at', t6.text, 0, vs), by simp [pHead, a6, nm], by simp [sameA, hs, hk, b6]⟩
    · split at h1
      · rename_i hk
        cases h1
        obtain ⟨t6, rfl, e6⟩ := like_one e1
        obtain ⟨a6, b6, c6⟩ := three_nu e6
        exact ⟨(2, t6.at', [], t6.num, []), by simp [pHead, a6], by simp [sameA, hs, hk, c6]⟩
      · split at h1
        · rename_i hk
          obtain ⟨rfl, hw⟩ := oName_ok h1
          obtain ⟨t6, rfl, e6⟩ := like_one e1
          obtain ⟨a6, b6, c6⟩ := three_na (by decide) e6
          exact ⟨(3, t6.at', t6.text, 0, []), by simp [pHead, a6], by simp [sameA, hs, hk, b6]⟩
        · cases h1
  obtain ⟨z, hz, hsz⟩ := H
  refine ⟨_, ?_, hsz⟩
  unfold pAlt
  simp only [List.cons_append, List.append_assoc, List.nil_append, hz, w2, hy, w5, andT]
theorem isS_not_brace {t : Tok} {r : List Tok} (h : t.kind = 1 ∨ t.kind = 2 ∨ t.kind = 4) : isS [125] (t :: r) = false := isS_other (by omega) _
/-- one or more, and the brace behind them -/
theorem back_many {α : Type} {o : α → OT} {one : List Tok → PR α} {same : α → α → Bool} (hAny : BackW o one same) (he : Eats one) (hh : ∀ x ts, o x = .ok ts → ∃ a r, ts = a :: r ∧ (a.kind = 1 ∨ a.kind = 2 ∨ a.kind = 4)) (sameL : List α → List α → Bool) (h0 : sameL [] [] = true) (hc : ∀ a b r q, same a b = true → sameL r q = true → sameL (a :: r) (b :: q) = true) :
    ∀ (xs : List α) (ts : List ATok), xs ≠ [] → oL o xs = .ok ts → ∀ (l : List Tok) (t : Tok) (R : List Tok), Like l ts → isS [125] (t :: R) = true → ∃ ys, many one (l ++ (t :: R)) = .ok (ys, R) ∧ sameL xs ys = true
  | [], _, h, _, _, _, _, _, _ => absurd rfl h
  | x :: r, ts, _, h, l, t, R, hl, ht => by
    obtain ⟨x1, y1, h1, h2, rfl⟩ := seqO_ok h
    obtain ⟨l1, l2, rfl, e1, e2⟩ := like_app hl
    rw [many_step he, List.append_assoc]
    obtain ⟨y, hy, hs⟩ := hAny x x1 h1 l1 (l2 ++ (t :: R)) e1
    rw [hy]
    simp only [andT]
    cases r with
    | nil =>
      cases h2
      rw [like_nil e2, List.nil_append, ht]
      exact ⟨[y], rfl, hc _ _ _ _ hs h0⟩
    | cons x' r' =>
      obtain ⟨x3, y3, h3, h4, rfl⟩ := seqO_ok h2
      obtain ⟨a0, r0, rfl, k0⟩ := hh x' x3 h3
      have hb : isS [125] (l2 ++ (t :: R)) = false := by
        obtain ⟨t0, q0, rfl, e0⟩ := like_head (r := r0 ++ y3) e2 (by omega) R
        rw [List.cons_append]
        exact isS_not_brace (by rw [e0]; exact k0)
      rw [hb]
      obtain ⟨ys, hys, hss⟩ := back_many hAny he hh sameL h0 hc (x' :: r') _ (by simp) h2 l2 t R e2 ht
      rw [hys]
      exact ⟨y :: ys, rfl, hc _ _ _ _ hs hss⟩
theorem head_B (ex : E → OT) : ∀ x ts, oB ex x = .ok ts → ∃ a r, ts = a :: r ∧ (a.kind = 1 ∨ a.kind = 2 ∨ a.kind = 4)
  | .mk n a as x, ts, h => by
    unfold oB at h
    obtain ⟨x1, y1, h1, g1, rfl⟩ := seqO_ok h
    obtain ⟨rfl, hw⟩ := oName_ok h1
    exact ⟨_, _, rfl, by simp⟩
theorem head_A (ex : E → OT) : ∀ x ts, oA ex x = .ok ts → ∃ a r, ts = a :: r ∧ (a.kind = 1 ∨ a.kind = 2 ∨ a.kind = 4)
  | .mk k a n m vs x, ts, h => by
    unfold oA at h
    obtain ⟨x1, y1, h1, g1, rfl⟩ := seqO_ok h
    unfold oHead at h1
    split at h1
    · obtain ⟨x6, y6, h6, h7, rfl⟩ := seqO_ok h1
      obtain ⟨rfl, hw⟩ := oName_ok h6
      exact ⟨_, _, rfl, by simp⟩
    · split at h1
      · cases h1; exact ⟨_, _, rfl, by simp⟩
      · split at h1
        · obtain ⟨rfl, hw⟩ := oName_ok h1
          exact ⟨_, _, rfl, by simp⟩
        · cases h1
theorem back_E : ∀ d, Back (oE d) (pExp d) sameE
  | 0 => fun x ts h => by cases h
  | d + 1 => fun x ts h l R hl hR => by
    have ih := back_E d
    obtain ⟨k, a, n, m, at', bs, ks, as⟩ := x
    unfold oE at h
    split at h
    · rename_i hk
      obtain ⟨x1, y1, h1, h2, rfl⟩ := seqO_ok h
      obtain ⟨rfl, hw⟩ := oName_ok h1
      obtain ⟨t, q, rfl, e, hq⟩ := like_cons hl
      obtain ⟨a1, b1, _⟩ := three_na (by omega) e
      obtain ⟨cs, hcs, hsm⟩ := back_atoms at' y1 h2 q R hq hR
      refine ⟨.mk k t.at' t.text 0 cs [] [] [], ?_, by simp [sameE, hk, b1, hsm]⟩
      rw [List.cons_append]
      unfold pExp
      rw [if_neg (by omega), if_pos (by rw [a1]; exact hk), hcs, a1]
    · split at h
      · rename_i _ hk
        cases h
        obtain ⟨t, rfl, e⟩ := like_one hl
        obtain ⟨a1, b1, c1⟩ := three_nu e
        refine ⟨.mk 4 t.at' [] t.num [] [] [] [], ?_, by simp [sameE, hk, c1]⟩
        rw [List.cons_append]
        unfold pExp
        rw [if_pos a1]
        rfl
      · split at h
        · rename_i n1 n2 hk
          split at h
          · cases h
          · rename_i hne
            obtain ⟨x1, y1, h1, g1, rfl⟩ := seqO_ok h
            obtain ⟨x2, y2, h2, g2, rfl⟩ := seqO_ok g1
            obtain ⟨x3, y3, h3, h4, rfl⟩ := seqO_ok g2
            clear h g1 g2
            cases h1; cases h3
            simp only [List.cons_append, List.nil_append] at hl
            obtain ⟨t1, q1, rfl, e1, hq⟩ := like_cons hl
            obtain ⟨t2, q2, rfl, e2, hq⟩ := like_cons hq
            obtain ⟨l3, q3, rfl, e3, hq⟩ := like_app hq
            obtain ⟨t4, q4, rfl, e4, hq⟩ := like_cons hq
            obtain ⟨t5, l6, rfl, e5, e6⟩ := like_cons hq
            cases ks with
            | nil => exact absurd (.inr rfl) hne
            | cons x ks =>
              obtain ⟨y, hy, hs⟩ := ih x y3 h4 l6 R e6 hR
              have i4 := (isS_mark (.inl rfl) e4 (t5 :: (l6 ++ R))).1
              obtain ⟨ys, hys, hss⟩ := back_many (back_B d ih) (bind_eats d) (head_B _) sameBs (by simp [sameBs]) (fun a b r q u v => by simp [sameBs, u, v]) bs x2 (fun z => hne (.inl z)) h2 l3 t4 (t5 :: (l6 ++ R)) e3 i4
              have i1 := (isS_mark (.inr rfl) e1 (t2 :: (l3 ++ (t4 :: (t5 :: (l6 ++ R)))))).1
              have w2 := want_mark (.inl rfl) e2 (l3 ++ (t4 :: (t5 :: (l6 ++ R))))
              have w5 := want_mark (.inr rfl) e5 (l6 ++ R)
              obtain ⟨k1, _, _⟩ := three_na (by decide) e1
              refine ⟨.mk 5 t1.at' [] 0 [] ys [y] [], ?_, by simp [sameE, sameK, hk, hs, hss]⟩
              simp only [List.cons_append, List.append_assoc, List.nil_append]
              unfold pExp
              rw [if_neg (by omega), if_neg (by omega), if_pos i1, w2]
              simp only [andT, hys, w5, hy]
        · split at h
          · rename_i n1 n2 n3 hk
            split at h
            · cases h
            · rename_i hne
              obtain ⟨x1, y1, h1, g1, rfl⟩ := seqO_ok h
              obtain ⟨x2, y2, h2, g2, rfl⟩ := seqO_ok g1
              obtain ⟨x3, y3, h3, g3, rfl⟩ := seqO_ok g2
              obtain ⟨x4, y4, h4, h5, rfl⟩ := seqO_ok g3
              clear h g1 g2 g3
              cases h1; cases h3; cases h5
              simp only [List.cons_append, List.nil_append] at hl
              obtain ⟨t1, q1, rfl, e1, hq⟩ := like_cons hl
              obtain ⟨l2, q2, rfl, e2, hq⟩ := like_app hq
              obtain ⟨t3, q3, rfl, e3, hq⟩ := like_cons hq
              obtain ⟨t4, q4, rfl, e4, hq⟩ := like_cons hq
              obtain ⟨l5, q5, rfl, e5, hq⟩ := like_app hq
              obtain ⟨t6, rfl, e6⟩ := like_one hq
              cases ks with
              | nil => exact absurd (.inl rfl) hne
              | cons x ks =>
                have i3 := isS_mark (.inr rfl) e3 (t4 :: (l5 ++ (t6 :: R)))
                obtain ⟨y, hy, hs⟩ := ih x x2 h2 l2 (t3 :: (t4 :: (l5 ++ (t6 :: R)))) e2 i3.2
                have i6 := (isS_mark (.inl rfl) e6 R).1
                obtain ⟨ys, hys, hss⟩ := back_many (back_A d ih) (alt_eats d) (head_A _) sameAs (by simp [sameAs]) (fun a b r q u v => by simp [sameAs, u, v]) as x4 (fun z => hne (.inr z)) h4 l5 t6 R e5 i6
                have i1 := (isS_mark (.inr rfl) e1 (l2 ++ (t3 :: (t4 :: (l5 ++ (t6 :: R)))))).1
                have i0 : isS [108, 101, 116] (t1 :: (l2 ++ (t3 :: (t4 :: (l5 ++ (t6 :: R)))))) = false := by
                  obtain ⟨a1, b1, _⟩ := three_na (by decide) e1
                  simp [isS, a1, b1]
                have w3 := want_mark (.inr rfl) e3 (t4 :: (l5 ++ (t6 :: R)))
                have w4 := want_mark (.inl rfl) e4 (l5 ++ (t6 :: R))
                obtain ⟨k1, _, _⟩ := three_na (by decide) e1
                refine ⟨.mk 6 t1.at' [] 0 [] [] [y] ys, ?_, by simp [sameE, sameK, hk, hs, hss]⟩
                simp only [List.cons_append, List.append_assoc, List.nil_append]
                unfold pExp
                rw [if_neg (by omega), if_neg (by omega), i0, if_neg (by decide), if_pos i1, hy]
                simp only [andT, w3, w4, hys]
          · cases h
theorem back_D : BackW oData (fun l => if isS [100, 97, 116, 97] l then pData l.tail else .error (0, [])) (fun a b => decide (a.name = b.name) && decide (a.arity = b.arity)) := fun x ts h l R hl => by
  unfold oData at h
  obtain ⟨x1, y1, h1, g1, rfl⟩ := seqO_ok h
  obtain ⟨x2, y2, h2, h3, rfl⟩ := seqO_ok g1
  clear h g1
  cases h1; cases h3
  obtain ⟨rfl, hw⟩ := oName_ok h2
  simp only [List.cons_append, List.nil_append] at hl
  obtain ⟨t1, q1, rfl, e1, hq⟩ := like_cons hl
  obtain ⟨t2, q2, rfl, e2, hq⟩ := like_cons hq
  obtain ⟨t3, q3, rfl, e3, hq⟩ := like_cons hq
  obtain ⟨t4, rfl, e4⟩ := like_one hq
  have i1 := (isS_mark (.inr rfl) e1 (t2 :: t3 :: t4 :: R)).1
  have k2 := kind_na (by decide) e2 (t3 :: t4 :: R)
  obtain ⟨a3, _, c3⟩ := three_nu e3
  have k3 : pKind 4 (t3 :: t4 :: R) = .ok (t3, t4 :: R) := by simp [pKind, a3]
  have w4 := want_mark (.inl rfl) e4 R
  obtain ⟨_, b2, _⟩ := three_na (by decide) e2
  refine ⟨⟨t2.text, t3.num, t2.at'⟩, ?_, by simp [b2, c3]⟩
  simp only [List.cons_append, List.nil_append]
  rw [i1]
  simp only [if_true, List.tail_cons, pData, k2, k3, w4, andT]
theorem back_datas : ∀ (ds : List D) (ts : List ATok), oL oData ds = .ok ts → ∀ (l R : List Tok), Like l ts → isS [100, 97, 116, 97] R = false → ∀ n, ds.length < n → ∃ es, pDatas n (l ++ R) = .ok (es, R) ∧ sameDs ds es = true
  | ds, ts, h, l, R, hl, hR, 0, hn => absurd hn (Nat.not_lt_zero _)
  | [], ts, h, l, R, hl, hR, n + 1, hn => by
    cases h
    rw [like_nil hl, List.nil_append]
    exact ⟨[], by unfold pDatas; rw [hR]; rfl, rfl⟩
  | d :: ds, ts, h, l, R, hl, hR, n + 1, hn => by
    obtain ⟨x1, y1, h1, h2, rfl⟩ := seqO_ok h
    obtain ⟨l1, l2, rfl, e1, e2⟩ := like_app hl
    rw [List.append_assoc]
    obtain ⟨y, hy, hs⟩ := back_D d x1 h1 l1 (l2 ++ R) e1
    obtain ⟨es, hes, hss⟩ := back_datas ds y1 h2 l2 R e2 hR n (by simp only [List.length_cons] at hn; omega)
    simp only at hy
    split at hy
    · rename_i hi
      refine ⟨y :: es, ?_, by simp only [Bool.and_eq_true, decide_eq_true_eq] at hs; simp [sameDs, hs, hss]⟩
      unfold pDatas
      rw [if_pos hi, hy]
      simp only [andT, hes]
    · cases hy
theorem back_binds : ∀ (bs : List B) (ts : List ATok), oL (oB (oE 60)) bs = .ok ts → ∀ (l : List Tok), Like l ts → ∀ n, bs.length < n → ∃ cs, pBinds n l = .ok (cs, []) ∧ sameBs bs cs = true
  | bs, ts, h, l, hl, 0, hn => absurd hn (Nat.not_lt_zero _)
  | [], ts, h, l, hl, n + 1, hn => by
    cases h
    rw [like_nil hl]
    exact ⟨[], rfl, by simp [sameBs]⟩
  | b :: bs, ts, h, l, hl, n + 1, hn => by
    obtain ⟨x1, y1, h1, h2, rfl⟩ := seqO_ok h
    obtain ⟨l1, l2, rfl, e1, e2⟩ := like_app hl
    obtain ⟨y, hy, hs⟩ := back_B 60 (back_E 60) b x1 h1 l1 l2 e1
    obtain ⟨es, hes, hss⟩ := back_binds bs y1 h2 l2 e2 n (by simp only [List.length_cons] at hn; omega)
    obtain ⟨a0, r0, rfl, k0⟩ := head_B _ b x1 h1
    obtain ⟨t, q, rfl, _⟩ := like_cons e1
    refine ⟨y :: es, ?_, by simp [sameBs, hs, hss]⟩
    rw [List.cons_append] at hy ⊢
    simp only [pBinds, hy, andT, hes]
theorem oL_len {α : Type} {f : α → OT} (hf : ∀ x ts, f x = .ok ts → 1 ≤ ts.length) : ∀ (l : List α) ts, oL f l = .ok ts → l.length ≤ ts.length
  | [], ts, h => by cases h; exact Nat.le_refl _
  | x :: r, ts, h => by
    obtain ⟨x1, y1, h1, h2, rfl⟩ := seqO_ok h
    have a := hf x x1 h1
    have b := oL_len hf r y1 h2
    simp only [List.length_append, List.length_cons]
    omega
theorem oData_len (x : D) (ts : List ATok) (h : oData x = .ok ts) : 1 ≤ ts.length := by
  unfold oData at h
  obtain ⟨x1, y1, h1, g1, rfl⟩ := seqO_ok h
  cases h1
  simp
theorem oB_len (d : Nat) (x : B) (ts : List ATok) (h : oB (oE d) x = .ok ts) : 1 ≤ ts.length := by
  obtain ⟨a, r, rfl, _⟩ := head_B _ x ts h
  simp
/-- Tokens that are those of a program make that program again. -/
theorem back_P {p : Pg} {ts : List ATok} (h : oP p = .ok ts) {l : List Tok} (hl : Like l ts) : ∃ q, pProg l = .ok (q, []) ∧ sameP p q = true := by
  obtain ⟨x1, y1, h1, h2, rfl⟩ := seqO_ok h
  obtain ⟨l1, l2, rfl, e1, e2⟩ := like_app hl
  have n1 : p.datas.length ≤ l1.length := by have a := oL_len oData_len _ _ h1; have b := congrArg List.length e1; simp only [List.length_map] at b; omega
  have n2 : p.binds.length ≤ l2.length := by have a := oL_len (oB_len 60) _ _ h2; have b := congrArg List.length e2; simp only [List.length_map] at b; omega
  have hR : isS [100, 97, 116, 97] l2 = false := by
    cases hb : p.binds with
    | nil =>
      rw [hb] at h2
      cases h2
      rw [like_nil e2]
      rfl
    | cons b bs =>
      rw [hb] at h2
      obtain ⟨x3, y3, h3, h4, rfl⟩ := seqO_ok h2
      obtain ⟨a0, r0, rfl, k0⟩ := head_B _ b x3 h3
      obtain ⟨t0, q0, rfl, e0⟩ := like_head (r := r0 ++ y3) e2 (by omega) []
      exact isS_other (by omega) _
  obtain ⟨es, hes, hs1⟩ := back_datas p.datas x1 h1 l1 l2 e1 hR ((l1 ++ l2).length + 1) (by rw [List.length_append]; omega)
  obtain ⟨cs, hcs, hs2⟩ := back_binds p.binds y1 h2 l2 e2 (l2.length + 1) (by omega)
  refine ⟨⟨es, cs⟩, ?_, by simp [sameP, hs1, hs2]⟩
  unfold pProg
  rw [hes]
  simp only [andT, hcs]
end Go.Proofs.YtofgnpehlheeiaaGreatDoor
