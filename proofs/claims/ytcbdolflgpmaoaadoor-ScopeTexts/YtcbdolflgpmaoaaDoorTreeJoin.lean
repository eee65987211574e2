/- Layer 6, made ready: two lists of tokens, one behind the other: of no program. -/
import Derived.Test.YtcbdolflgpmaoaaDoorTree
namespace Go.Proofs.YtcbdolflgpmaoaaDoor

/-- what stands behind changes nothing; what stands behind changes nothing where something is left -/
def Firm {α : Type} (p : List Tok → PR α) : Prop := ∀ l a r M, p l = .ok (a, r) → p (l ++ M) = .ok (a, r ++ M)
def Half {α : Type} (p : List Tok → PR α) : Prop := ∀ l a r M, r ≠ [] → p l = .ok (a, r) → p (l ++ M) = .ok (a, r ++ M)
theorem andT_eq {α β : Type} {p : PR α} {a : α} {r : List Tok} (h : p = .ok (a, r)) (f : α → List Tok → PR β) : andT p f = f a r := by rw [h]; rfl
theorem kind_firm (k : Int) : Firm (pKind k) := fun l a r M h => by
  obtain ⟨rfl, hk⟩ := pKind_eats h
  simp [pKind, hk]
theorem isS_app {s : List UInt8} {l : List Tok} (h : l ≠ []) (M : List Tok) : isS s (l ++ M) = isS s l := by
  cases l with
  | nil => exact absurd rfl h
  | cons t r => rfl
theorem want_firm (s : List UInt8) : Firm (pWant s) := fun l a r M h => by
  obtain ⟨hs, t, rfl⟩ := pWant_eats h
  have := isS_app (s := s) (l := t :: r) (by simp) M
  simp only [pWant]
  rw [this, hs]
  rfl
theorem names_half : ∀ (l M : List Tok), (pNames l).2 ≠ [] → pNames (l ++ M) = ((pNames l).1, (pNames l).2 ++ M)
  | [], M, h => absurd rfl h
  | t :: r, M, h => by
    simp only [List.cons_append, pNames] at h ⊢
    split at h
    · rename_i hk
      rw [if_pos hk, if_pos hk, names_half r M h]
    · rename_i hk
      rw [if_neg hk, if_neg hk]
      rfl
theorem atoms_half : ∀ (l M : List Tok), (pAtoms l).2 ≠ [] → pAtoms (l ++ M) = ((pAtoms l).1, (pAtoms l).2 ++ M)
  | [], M, h => absurd rfl h
  | t :: r, M, h => by
    simp only [List.cons_append, pAtoms] at h ⊢
    split at h
    · rename_i hk
      rw [if_pos hk, if_pos hk, atoms_half r M h]
    · rename_i hk
      rw [if_neg hk, if_neg hk]
      rfl
theorem isS_some {s : List UInt8} {l : List Tok} (h : isS s l = true) : ∃ t r, l = t :: r := by
  cases l with
  | nil => cases h
  | cons t r => exact ⟨t, r, rfl⟩
theorem args_half : Half pArgs := fun l a r M hr h => by
  unfold pArgs at h ⊢
  split at h
  · rename_i hs
    obtain ⟨t0, q, rfl⟩ := isS_some hs
    obtain ⟨t, r1, h1, h⟩ := andT_ok h
    obtain ⟨u, r2, h2, h⟩ := andT_ok h
    rw [isS_app (by simp), if_pos hs]
    have k := kind_firm 1 _ _ _ M h1
    obtain ⟨_, v, e2⟩ := pWant_eats h2
    have w := want_firm _ _ _ _ M h2
    have n := names_half r1 M (by rw [e2]; simp)
    cases h
    rw [show (t0 :: q ++ M).tail = (t0 :: q).tail ++ M from rfl, andT_eq k]
    rw [n]
    simp only
    rw [andT_eq w]
  · rename_i hs
    cases h
    rw [isS_app hr, if_neg hs]
theorem bind_firm {ex : List Tok → PR E} (he : Half ex) (hl : ∀ l a r, ex l = .ok (a, r) → r.length < l.length) : Firm (pBind ex) := fun l a r M h => by
  unfold pBind at h ⊢
  obtain ⟨t, r1, h1, h⟩ := andT_ok h
  obtain ⟨_, r2, h2, h⟩ := andT_ok h
  obtain ⟨as, r3, h3, h⟩ := andT_ok h
  obtain ⟨x, r4, h4, h⟩ := andT_ok h
  obtain ⟨_, r5, h5, h⟩ := andT_ok h
  obtain ⟨_, v', e5⟩ := pWant_eats h5
  have n4 : r4 ≠ [] := by rw [e5]; simp
  have n3 : r3 ≠ [] := by intro z; have := hl _ _ _ h4; rw [z] at this; exact absurd this (Nat.not_lt_zero _)
  cases h
  rw [andT_eq (kind_firm 1 _ _ _ M h1), andT_eq (want_firm _ _ _ _ M h2), andT_eq (args_half _ _ _ M n3 h3), andT_eq (he _ _ _ M n4 h4), andT_eq (want_firm _ _ _ _ M h5)]
theorem head_half : Half pHead := fun l a r M hr h => by
  cases l with
  | nil => cases h
  | cons t q =>
    simp only [List.cons_append, pHead] at h ⊢
    split at h
    · rename_i hk
      cases h
      rw [if_pos hk, names_half q M hr]
    · rename_i hk
      rw [if_neg hk]
      split at h
      · rename_i hk
        cases h
        rw [if_pos hk]
      · rename_i hk
        rw [if_neg hk]
        split at h
        · rename_i hk
          cases h
          rw [if_pos hk]
        · cases h
theorem alt_firm {ex : List Tok → PR E} (he : Half ex) : Firm (pAlt ex) := fun l a r M h => by
  unfold pAlt at h ⊢
  obtain ⟨t, r1, h1, h⟩ := andT_ok h
  obtain ⟨_, r2, h2, h⟩ := andT_ok h
  obtain ⟨x, r4, h4, h⟩ := andT_ok h
  obtain ⟨_, r5, h5, h⟩ := andT_ok h
  obtain ⟨_, v, e2⟩ := pWant_eats h2
  obtain ⟨_, v', e5⟩ := pWant_eats h5
  have n4 : r4 ≠ [] := by rw [e5]; simp
  have n1 : r1 ≠ [] := by rw [e2]; simp
  cases h
  rw [andT_eq (head_half _ _ _ M n1 h1), andT_eq (want_firm _ _ _ _ M h2), andT_eq (he _ _ _ M n4 h4), andT_eq (want_firm _ _ _ _ M h5)]
theorem manyF_firm {α : Type} {one : List Tok → PR α} (ho : Firm one) (hl : Eats one) : ∀ n l a r M, manyF one n l = .ok (a, r) → ∀ m, n ≤ m → manyF one m (l ++ M) = .ok (a, r ++ M)
  | 0, l, a, r, M, h, _, _ => by cases h
  | n + 1, l, a, r, M, h, m, hm => by
    obtain ⟨m, rfl⟩ : ∃ k, m = k + 1 := ⟨m - 1, by omega⟩
    unfold manyF at h ⊢
    obtain ⟨x, r1, h1, h⟩ := andT_ok h
    rw [andT_eq (ho _ _ _ M h1)]
    split at h
    · rename_i hs
      obtain ⟨t, q, rfl⟩ := isS_some hs
      cases h
      rw [isS_app (by simp), if_pos hs]
      rfl
    · rename_i hs
      obtain ⟨xs, r2, h2, h⟩ := andT_ok h
      have hne : r1 ≠ [] := by
        intro z
        have := manyF_eats hl n _ _ _ h2
        rw [z] at this
        exact absurd this (Nat.not_lt_zero _)
      cases h
      rw [isS_app hne, if_neg hs, andT_eq (manyF_firm ho hl n _ _ _ M h2 m (by omega))]
theorem many_firm {α : Type} {one : List Tok → PR α} (ho : Firm one) (hl : Eats one) : Firm (many one) := fun l a r M h => manyF_firm ho hl _ l a r M h _ (by simp only [List.length_append]; omega)
theorem exp_half : ∀ d, Half (pExp d)
  | 0 => fun l a r M hr h => by cases l <;> cases h
  | d + 1 => fun l a r M hr h => by
    have ih := exp_half d
    have ie := pExp_eats d
    have ib : Firm (pBind (pExp d)) := bind_firm ih ie
    have ia : Firm (pAlt (pExp d)) := alt_firm ih
    cases l with
    | nil => cases h
    | cons t q =>
      have S := fun s => isS_app (s := s) (l := t :: q) (by simp) M
      simp only [List.cons_append] at S
      simp only [List.cons_append, pExp, S] at h ⊢
      split at h
      · rename_i hk
        cases h
        rw [if_pos hk]
      · rename_i hk
        rw [if_neg hk]
        split at h
        · rename_i hk
          cases h
          rw [if_pos hk, atoms_half q M hr]
        · rename_i hk
          rw [if_neg hk]
          split at h
          · rename_i hk
            rw [if_pos hk]
            obtain ⟨_, r1, h1, h⟩ := andT_ok h
            obtain ⟨bs, r2, h2, h⟩ := andT_ok h
            obtain ⟨_, r3, h3, h⟩ := andT_ok h
            obtain ⟨x, r4, h4, h⟩ := andT_ok h
            cases h
            rw [andT_eq (want_firm _ _ _ _ M h1), andT_eq (many_firm ib (bind_eats d) _ _ _ M h2), andT_eq (want_firm _ _ _ _ M h3), andT_eq (ih _ _ _ M hr h4)]
          · rename_i hk
            rw [if_neg hk]
            split at h
            · rename_i hk
              rw [if_pos hk]
              obtain ⟨x, r1, h1, h⟩ := andT_ok h
              obtain ⟨_, r2, h2, h⟩ := andT_ok h
              obtain ⟨_, r3, h3, h⟩ := andT_ok h
              obtain ⟨as, r4, h4, h⟩ := andT_ok h
              obtain ⟨_, v, e2⟩ := pWant_eats h2
              cases h
              rw [andT_eq (ih _ _ _ M (by rw [e2]; simp) h1), andT_eq (want_firm _ _ _ _ M h2), andT_eq (want_firm _ _ _ _ M h3), andT_eq (many_firm ia (alt_eats d) _ _ _ M h4)]
            · rename_i hk
              rw [if_neg hk]
              split at h
              · rename_i hk
                rw [if_pos hk]
                obtain ⟨x, r1, h1, h⟩ := andT_ok h
                obtain ⟨_, r2, h2, h⟩ := andT_ok h
                obtain ⟨_, v, e2⟩ := pWant_eats h2
                cases h
                rw [andT_eq (ih _ _ _ M (by rw [e2]; simp) h1), andT_eq (want_firm _ _ _ _ M h2)]
              · cases h
theorem data_firm : Firm pData := fun l a r M h => by
  unfold pData at h ⊢
  obtain ⟨c, r1, h1, h⟩ := andT_ok h
  obtain ⟨n, r2, h2, h⟩ := andT_ok h
  obtain ⟨_, r3, h3, h⟩ := andT_ok h
  cases h
  rw [andT_eq (kind_firm _ _ _ _ M h1), andT_eq (kind_firm _ _ _ _ M h2), andT_eq (want_firm _ _ _ _ M h3)]
theorem data_eats : Eats pData := fun l a r h => by
  unfold pData at h
  obtain ⟨c, r1, h1, h⟩ := andT_ok h
  obtain ⟨n, r2, h2, h⟩ := andT_ok h
  obtain ⟨_, r3, h3, h⟩ := andT_ok h
  obtain ⟨e1, _⟩ := pKind_eats h1
  obtain ⟨e2, _⟩ := pKind_eats h2
  obtain ⟨_, v, e3⟩ := pWant_eats h3
  cases h
  subst e1 e2 e3
  simp only [List.length_cons]
  omega
theorem datas_step (n : Nat) {t : Tok} {q : List Tok} (h : isS [100, 97, 116, 97] (t :: q) = true) : pDatas (n + 1) (t :: q) = andT (pData q) fun d r => andT (pDatas n r) fun ds r => .ok (d :: ds, r) := by
  conv => lhs; unfold pDatas
  rw [if_pos h]
  rfl
theorem datas_more : ∀ n m l, l.length < n → l.length < m → pDatas n l = pDatas m l
  | 0, _, _, h, _ => absurd h (Nat.not_lt_zero _)
  | _ + 1, 0, _, _, h => absurd h (Nat.not_lt_zero _)
  | n + 1, m + 1, l, hn, hm => by
    unfold pDatas
    split
    · rename_i hs
      obtain ⟨t, q, rfl⟩ := isS_some hs
      simp only [List.tail_cons, List.length_cons] at hn hm ⊢
      rcases e : pData q with x | ⟨x, r⟩
      · rfl
      · have := data_eats _ _ _ e
        simp only [andT]
        rw [datas_more n m r (by omega) (by omega)]
    · rfl
theorem binds_more : ∀ n m l, l.length < n → l.length < m → pBinds n l = pBinds m l
  | 0, _, _, h, _ => absurd h (Nat.not_lt_zero _)
  | _ + 1, 0, _, _, h => absurd h (Nat.not_lt_zero _)
  | n + 1, m + 1, [], hn, hm => rfl
  | n + 1, m + 1, t :: l, hn, hm => by
    unfold pBinds
    rcases e : pBind (pExp 60) (t :: l) with x | ⟨x, r⟩
    · rfl
    · have := bind_eats 60 _ _ _ e
      simp only [andT]
      rw [binds_more n m r (by omega) (by omega)]
/-- the binds go to the end -/
theorem binds_end : ∀ n l bs r, l.length < n → pBinds n l = .ok (bs, r) → r = []
  | 0, _, _, _, h, _ => absurd h (Nat.not_lt_zero _)
  | n + 1, [], _, _, _, h => by cases h; rfl
  | n + 1, t :: l, bs, r, hn, h => by
    unfold pBinds at h
    obtain ⟨b, r1, h1, h⟩ := andT_ok h
    obtain ⟨bs', r2, h2, h⟩ := andT_ok h
    have := bind_eats 60 _ _ _ h1
    cases h
    exact binds_end n r1 _ _ (by omega) h2
theorem binds_app : ∀ n l bs r M bs', l.length < n → pBinds n l = .ok (bs, r) → pBinds (M.length + 1) M = .ok (bs', []) → pBinds ((l ++ M).length + 1) (l ++ M) = .ok (bs ++ bs', [])
  | 0, _, _, _, _, _, h, _, _ => absurd h (Nat.not_lt_zero _)
  | n + 1, [], _, _, M, _, _, h, h' => by cases h; exact h'
  | n + 1, t :: l, bs, r, M, bs', hn, h, h' => by
    unfold pBinds at h
    obtain ⟨b, r1, h1, h⟩ := andT_ok h
    obtain ⟨bs1, r2, h2, h⟩ := andT_ok h
    have e := bind_eats 60 _ _ _ h1
    cases h
    have ih := binds_app n r1 _ _ M bs' (by omega) h2 h'
    have fb := bind_firm (exp_half 60) (pExp_eats 60) _ _ _ M h1
    simp only [List.cons_append, pBinds] at fb ⊢
    rw [andT_eq fb]
    rw [binds_more _ ((r1 ++ M).length + 1) (r1 ++ M) (by simp only [List.length_append, List.length_cons] at e ⊢; omega) (Nat.lt_succ_self _), ih]
    rfl
theorem datas_le : ∀ n l ds r, pDatas n l = .ok (ds, r) → r.length ≤ l.length
  | 0, _, _, _, h => by cases h; exact Nat.le_refl _
  | n + 1, l, ds, r, h => by
    unfold pDatas at h
    split at h
    · rename_i hs
      obtain ⟨t, q, rfl⟩ := isS_some hs
      obtain ⟨d, r1, h1, h⟩ := andT_ok h
      obtain ⟨ds', r2, h2, h⟩ := andT_ok h
      have a := data_eats _ _ _ h1
      have b := datas_le n _ _ _ h2
      cases h
      simp only [List.tail_cons, List.length_cons] at a ⊢
      omega
    · cases h; exact Nat.le_refl _
/-- the datas, where none is left, and where one is -/
theorem datas_app : ∀ n l ds r M, l.length < n → pDatas n l = .ok (ds, r) →
    pDatas ((l ++ M).length + 1) (l ++ M) = if r = [] then andT (pDatas (M.length + 1) M) (fun ds' r' => .ok (ds ++ ds', r')) else .ok (ds, r ++ M)
  | 0, _, _, _, _, h, _ => absurd h (Nat.not_lt_zero _)
  | n + 1, l, ds, r, M, hn, h => by
    unfold pDatas at h
    split at h
    · rename_i hs
      obtain ⟨t, q, rfl⟩ := isS_some hs
      obtain ⟨d, r1, h1, h⟩ := andT_ok h
      obtain ⟨ds1, r2, h2, h⟩ := andT_ok h
      have e := data_eats _ _ _ h1
      simp only [List.tail_cons, List.length_cons] at e hn h1
      cases h
      have ih := datas_app n r1 _ _ M (by omega) h2
      have fb := data_firm _ _ _ M h1
      have hs' : isS [100, 97, 116, 97] (t :: (q ++ M)) = true := hs
      rw [List.cons_append, datas_step _ hs', andT_eq fb, datas_more _ ((r1 ++ M).length + 1) (r1 ++ M) (by simp only [List.length_append, List.length_cons]; omega) (Nat.lt_succ_self _), ih]
      split
      · rcases pDatas (M.length + 1) M with x | ⟨x, r⟩ <;> rfl
      · rfl
    · rename_i hs
      cases h
      split
      · rename_i z
        subst z
        simp only [List.nil_append]
        rcases pDatas (M.length + 1) M with x | ⟨x, r⟩ <;> rfl
      · rename_i z
        unfold pDatas
        rw [isS_app z, if_neg hs]
/-- Two programs, one behind the other. -/
theorem prog_app {l M r r' : List Tok} {p q : Pg} (hl : pProg l = .ok (p, r)) (hM : pProg M = .ok (q, r')) (h : p.binds = [] ∨ q.datas = []) :
    pProg (l ++ M) = .ok (⟨p.datas ++ q.datas, p.binds ++ q.binds⟩, []) := by
  unfold pProg at hl hM ⊢
  obtain ⟨ds, l1, h1, hl⟩ := andT_ok hl
  obtain ⟨bs, l2, h2, hl⟩ := andT_ok hl
  obtain ⟨ds', m1, k1, hM⟩ := andT_ok hM
  obtain ⟨bs', m2, k2, hM⟩ := andT_ok hM
  cases hl
  cases hM
  simp only at h ⊢
  have z2 := binds_end _ _ _ _ (Nat.lt_succ_self _) k2
  subst z2
  have A := datas_app _ l _ _ M (Nat.lt_succ_self _) h1
  by_cases z : l1 = []
  · subst z
    rw [if_pos rfl, andT_eq k1] at A
    cases h2
    rw [andT_eq A, andT_eq k2]
    rfl
  · rw [if_neg z] at A
    have hds : ds' = [] := by
      rcases h with h | h
      · subst h
        cases l1 with
        | nil => exact absurd rfl z
        | cons t q =>
          simp only [List.length_cons, pBinds] at h2
          obtain ⟨b, r1, h3, h2⟩ := andT_ok h2
          obtain ⟨bs1, r2, h4, h2⟩ := andT_ok h2
          cases h2
      · exact h
    subst hds
    have hm : m1 = M := by
      unfold pDatas at k1
      split at k1
      · obtain ⟨d, r1, k3, k1⟩ := andT_ok k1
        obtain ⟨bs1, r2, k4, k1⟩ := andT_ok k1
        cases k1
      · cases k1; rfl
    subst hm
    rw [andT_eq A, andT_eq (binds_app _ l1 _ _ m1 bs' (Nat.lt_succ_self _) h2 k2), List.append_nil]

end Go.Proofs.YtcbdolflgpmaoaaDoor

