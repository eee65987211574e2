/- Layer 7 (show): the same programs have the same tokens; what is parsed has tokens; lines: of no program. -/
import Derived.Test.YtofgnpehlheeiaaGreatDoorShowA
namespace Go.Proofs.YtofgnpehlheeiaaGreatDoor
set_option linter.unusedVariables false
set_option linter.unusedSimpArgs false

/-! ## The same programs -/
theorem same_atoms : ∀ a b : List Atm, sameAtm a b = true → oAtoms a = oAtoms b
  | [], [], _ => rfl
  | [], _ :: _, h => by simp [sameAtm] at h
  | _ :: _, [], h => by simp [sameAtm] at h
  | x :: r, y :: q, h => by
    simp only [sameAtm, Bool.and_eq_true, Bool.or_eq_true, decide_eq_true_eq] at h
    have ih := same_atoms r q h.2
    have e : oAtom x = oAtom y := by
      unfold oAtom
      rw [← h.1.1]
      split
      · rename_i hn
        rcases h.1.2 with z | z
        · exact absurd hn z
        · rw [z]
      · rfl
    simp only [oAtoms, ih, e]
mutual
theorem same_E : ∀ (x y : E), sameE x y = true → ∀ d, oE d x = oE d y
  | .mk k a n m ts bs ks as, .mk k' a' n' m' ts' bs' ks' as', h, d => by
    cases d with
    | zero => rfl
    | succ d =>
    simp only [sameE] at h
    split at h
    · cases h
    · rename_i hk
      have hk : k = k' := by simpa using hk
      subst hk
      unfold oE
      split at h
      · rename_i c
        simp only [Bool.and_eq_true, decide_eq_true_eq] at h
        rw [if_pos c, if_pos c, h.1, same_atoms _ _ h.2]
      · rename_i c
        rw [if_neg c, if_neg c]
        split at h
        · rename_i c2
          simp only [decide_eq_true_eq] at h
          rw [if_pos c2, if_pos c2, h]
        · rename_i c2
          rw [if_neg c2, if_neg c2]
          split at h
          · rename_i c3
            simp only [Bool.and_eq_true] at h
            rw [if_pos c3, if_pos c3]
            have e1 := same_Bs bs bs' h.1 d
            have e2 := same_K ks ks' h.2 d
            have n1 := sameBs_nil h.1
            have n2 := sameK_nil h.2
            by_cases z : bs = [] ∨ ks = []
            · rw [if_pos z, if_pos (by rw [← n1, ← n2]; exact z)]
            · rw [if_neg z, if_neg (by rw [← n1, ← n2]; exact z), e1, e2]
          · rename_i c3
            rw [if_neg c3, if_neg c3]
            split at h
            · rename_i c4
              simp only [Bool.and_eq_true] at h
              rw [if_pos c4, if_pos c4]
              have e1 := same_As as as' h.2 d
              have e2 := same_K ks ks' h.1 d
              have n1 := sameAs_nil h.2
              have n2 := sameK_nil h.1
              by_cases z : ks = [] ∨ as = []
              · rw [if_pos z, if_pos (by rw [← n1, ← n2]; exact z)]
              · rw [if_neg z, if_neg (by rw [← n1, ← n2]; exact z), e1, e2]
            · rename_i c4
              rw [if_neg c4, if_neg c4]
theorem same_B : ∀ (x y : B), sameB x y = true → ∀ d, oB (oE d) x = oB (oE d) y
  | .mk n a as x, .mk n' a' as' x', h, d => by
    simp only [sameB, Bool.and_eq_true, decide_eq_true_eq] at h
    simp only [oB, h.1.1, h.1.2, same_E x x' h.2 d]
theorem same_A : ∀ (x y : A), sameA x y = true → ∀ d, oA (oE d) x = oA (oE d) y
  | .mk k a n m vs x, .mk k' a' n' m' vs' x', h, d => by
    simp only [sameA, Bool.and_eq_true, Bool.or_eq_true, decide_eq_true_eq] at h
    obtain ⟨⟨⟨⟨rfl, h1⟩, h2⟩, h3⟩, h4⟩ := h
    simp only [oA, same_E x x' h1 d]
    congr 1
    unfold oHead
    split
    · rename_i c
      rw [h2.resolve_left (fun z => z (.inl c)), h4.resolve_left (fun z => z c)]
    · split
      · rename_i c
        rw [h3.resolve_left (fun z => z c)]
      · split
        · rename_i c
          rw [h2.resolve_left (fun z => z (.inr c))]
        · rfl
theorem same_K : ∀ (x y : List E), sameK x y = true → ∀ d, oK (oE d) x = oK (oE d) y
  | [], y, h, d => by
    cases y with
    | nil => rfl
    | cons a b => simp [sameK] at h
  | x :: r, y, h, d => by
    cases y with
    | nil => simp [sameK] at h
    | cons a b =>
      simp only [sameK] at h
      exact same_E x a h d
theorem same_Bs : ∀ (x y : List B), sameBs x y = true → ∀ d, oL (oB (oE d)) x = oL (oB (oE d)) y
  | [], y, h, d => by
    cases y with
    | nil => rfl
    | cons a b => simp [sameBs] at h
  | x :: r, y, h, d => by
    cases y with
    | nil => simp [sameBs] at h
    | cons a b =>
      simp only [sameBs, Bool.and_eq_true] at h
      simp only [oL, same_B x a h.1 d, same_Bs r b h.2 d]
theorem same_As : ∀ (x y : List A), sameAs x y = true → ∀ d, oL (oA (oE d)) x = oL (oA (oE d)) y
  | [], y, h, d => by
    cases y with
    | nil => rfl
    | cons a b => simp [sameAs] at h
  | x :: r, y, h, d => by
    cases y with
    | nil => simp [sameAs] at h
    | cons a b =>
      simp only [sameAs, Bool.and_eq_true] at h
      simp only [oL, same_A x a h.1 d, same_As r b h.2 d]
theorem sameBs_nil : ∀ {x y : List B}, sameBs x y = true → ((x = []) = (y = []))
  | [], y, h => by cases y <;> simp_all [sameBs]
  | x :: r, y, h => by cases y <;> simp_all [sameBs]
theorem sameAs_nil : ∀ {x y : List A}, sameAs x y = true → ((x = []) = (y = []))
  | [], y, h => by cases y <;> simp_all [sameAs]
  | x :: r, y, h => by cases y <;> simp_all [sameAs]
theorem sameK_nil : ∀ {x y : List E}, sameK x y = true → ((x = []) = (y = []))
  | [], y, h => by cases y <;> simp_all [sameK]
  | x :: r, y, h => by cases y <;> simp_all [sameK]
end

/-! ## Each data and each bind by itself: its line -/
def linesO (p : Pg) : Except Int (List (List ATok)) :=
  match oLs oData p.datas with
  | .ok x => (match oLs (oB (oE 60)) p.binds with
    | .ok y => .ok (x ++ y)
    | .error e => .error e)
  | .error e => .error e
theorem oLs_oL {α : Type} (f : α → OT) : ∀ l : List α, oL f l = (match oLs f l with | .ok y => .ok y.flatten | .error e => .error e)
  | [] => rfl
  | a :: r => by
    have ih := oLs_oL f r
    simp only [oL, oLs]
    rw [ih]
    rcases f a with e | x
    · rfl
    · rcases oLs f r with e | y
      · rfl
      · simp [seqO]
theorem oP_lines (p : Pg) : oP p = (match linesO p with | .ok y => .ok y.flatten | .error e => .error e) := by
  unfold oP linesO
  rw [oLs_oL, oLs_oL]
  rcases oLs oData p.datas with e | x
  · rfl
  · rcases oLs (oB (oE 60)) p.binds with e | y
    · rfl
    · simp [seqO]
theorem sameDs_oLs : ∀ x y : List D, sameDs x y = true → oLs oData x = oLs oData y
  | [], [], _ => rfl
  | [], _ :: _, h => by simp [sameDs] at h
  | _ :: _, [], h => by simp [sameDs] at h
  | x :: r, y :: q, h => by
    simp only [sameDs, Bool.and_eq_true, decide_eq_true_eq] at h
    have ih := sameDs_oLs r q h.2
    have e : oData x = oData y := by simp only [oData, h.1.1, h.1.2]
    simp only [oLs, ih, e]
theorem sameBs_oLs : ∀ x y : List B, sameBs x y = true → oLs (oB (oE 60)) x = oLs (oB (oE 60)) y
  | [], y, h => by
    cases y with
    | nil => rfl
    | cons a b => simp [sameBs] at h
  | x :: r, y, h => by
    cases y with
    | nil => simp [sameBs] at h
    | cons a b =>
      simp only [sameBs, Bool.and_eq_true] at h
      simp only [oLs, same_B x a h.1 60, sameBs_oLs r b h.2]
theorem same_lines {p q : Pg} (h : sameP p q = true) : linesO p = linesO q := by
  simp only [sameP, Bool.and_eq_true] at h
  simp only [linesO, sameDs_oLs _ _ h.1, sameBs_oLs _ _ h.2]

/-! ## What is parsed has tokens -/
def GoodW (l : List Tok) : Prop := ∀ t ∈ l, (t.kind = 1 ∨ t.kind = 2 ∨ t.kind = 3) → wordB t.text t.kind = true
theorem take_run (p : Int → Bool) : ∀ l : List UInt8, runN p (l.take (runN p l)) = runN p l
  | [] => rfl
  | c :: r => by
    by_cases h : p c.toNat = true
    · simp only [runN, h, if_true, List.take_succ_cons, take_run p r]
    · simp [runN, h]
theorem read_again {l : List UInt8} {t : Tk} (h : readT l = .ok t) (hk : t.kind = 1 ∨ t.kind = 2 ∨ t.kind = 3) : wordB t.text t.kind = true := by
  obtain ⟨h1, h32⟩ := readT_one h
  suffices H : readT t.text = .ok ⟨t.kind, t.text, 0, t.text.length⟩ by
    simp only [wordB, justT, H, Bool.and_eq_true, Bool.or_eq_true, decide_eq_true_eq, and_true]
    exact hk
  have hn : 0 < t.text.length → t.text.length ≤ 32 := fun _ => h32
  cases l with
  | nil => cases h1
  | cons c r =>
    unfold one at h1
    simp only at h1
    split at h1
    · rename_i hs
      cases h1
      simp only at h32 hk ⊢
      have R := take_run rn (c :: r)
      have hp : 0 < runN rn (c :: r) := by
        have : rn c.toNat = true := by simp only [sm, rn, decide_eq_true_eq] at hs ⊢; exact .inl hs
        simp only [runN, this, if_true]; omega
      obtain ⟨q, e⟩ := take_head (c := c) (r := r) hp
      have L : ((c :: r).take (runN rn (c :: r))).length = runN rn (c :: r) := by rw [List.length_take]; have := runN_le rn (c :: r); omega
      rw [e] at R L hk h32 ⊢
      have hR : runN rn (c :: q) = (c :: q).length := by rw [R, L]
      unfold readT
      rw [one_small hs, hR, List.take_length]
      simp only
      rw [if_neg (by omega)]
    · split at h1
      · rename_i hs0 hs
        cases h1
        simp only at h32 hk ⊢
        have R := take_run rn (c :: r)
        have hp : 0 < runN rn (c :: r) := by
          have : rn c.toNat = true := by simp only [gr, rn, decide_eq_true_eq] at hs ⊢; exact .inr (.inl hs)
          simp only [runN, this, if_true]; omega
        obtain ⟨q, e⟩ := take_head (c := c) (r := r) hp
        have L : ((c :: r).take (runN rn (c :: r))).length = runN rn (c :: r) := by rw [List.length_take]; have := runN_le rn (c :: r); omega
        rw [e] at R L h32 ⊢
        have hR : runN rn (c :: q) = (c :: q).length := by rw [R, L]
        unfold readT
        rw [one_great (by simpa using hs0) hs, hR, List.take_length]
        simp only
        rw [if_neg (by omega)]
      · split at h1
        · rename_i hs
          cases h1
          simp only at h32 hk ⊢
          rw [List.take_succ_cons] at h32 ⊢
          have R := take_run rn r
          have L : (r.take (runN rn r)).length = runN rn r := by rw [List.length_take]; have := runN_le rn r; omega
          have hx : sm (nxt (r.take (runN rn r))) = true := by
            cases r with
            | nil => exact hs.2
            | cons d q =>
              have hd : rn d.toNat = true := by have z := hs.2; rw [show nxt (d :: q) = d.toNat from rfl] at z; unfold sm at z; unfold rn; rw [decide_eq_true_eq] at z ⊢; exact .inl z
              simp only [runN, hd, if_true, List.take_succ_cons]
              exact hs.2
          unfold readT
          rw [one_prim hs.1 hx, R, List.take_of_length_le (by simp only [List.length_cons, L]; omega)]
          simp only [List.length_cons, L] at h32 ⊢
          rw [if_neg (by omega)]
        · split at h1
          · split at h1
            · cases h1; simp at hk
            · cases h1
          · split at h1
            · cases h1; simp at hk
            · split at h1
              · cases h1; simp at hk
              · cases h1
theorem scanF_goodW : ∀ f l a ts, scanF f l a = .ok ts → GoodW ts
  | 0, _, _, _, h => by cases h; exact fun t ht => by cases ht
  | f + 1, l, a, ts, h => by
    by_cases hk : skipN false l < l.length
    · rcases hr : readT (l.drop (skipN false l)) with e | t
      · rw [scanF_err _ _ _ hk hr] at h; cases h
      · rw [scanF_ok _ _ _ hk hr] at h
        rcases hq : scanF f ((l.drop (skipN false l)).drop t.len) (a + skipN false l + t.len) with e | us
        · rw [hq] at h; cases h
        · rw [hq] at h
          cases h
          have ih := scanF_goodW f _ _ _ hq
          intro u hu
          rcases List.mem_append.1 hu with z | z
          · rw [List.mem_singleton] at z; subst z; exact read_again hr
          · exact ih u z
    · rw [scanF_end _ _ _ hk] at h
      cases h
      exact fun t ht => by cases ht
theorem scan_goodW {l : List UInt8} {ts : List Tok} (h : scanAll l = .ok ts) : GoodW ts := by
  unfold scanAll at h
  split at h
  · cases h
  · exact scanF_goodW _ _ _ _ h
theorem GoodW.tail {t : Tok} {l : List Tok} (h : GoodW (t :: l)) : GoodW l := fun u hu => h u (List.mem_cons_of_mem _ hu)
theorem GoodW.sfx {l r : List Tok} (h : GoodW l) (hr : r <:+ l) : GoodW r := fun u hu => h u (hr.subset hu)
theorem seqO_some {a b : OT} {x y : List ATok} (ha : a = .ok x) (hb : b = .ok y) : seqO a b = .ok (x ++ y) := by rw [ha, hb]; rfl
/-- what is told well -/
def Has (o : OT) : Prop := ∃ x, o = .ok x
theorem Has.seq {a b : OT} (ha : Has a) (hb : Has b) : Has (seqO a b) := by
  obtain ⟨x, rfl⟩ := ha
  obtain ⟨y, rfl⟩ := hb
  exact ⟨_, rfl⟩
theorem Has.ok (x : List ATok) : Has (.ok x) := ⟨x, rfl⟩
theorem has_name {k : Int} {s : List UInt8} (h : wordB s k = true) : Has (oName k s) := by unfold oName; rw [if_pos h]; exact ⟨_, rfl⟩
theorem has_names : ∀ l : List Tok, GoodW l → Has (oNames (pNames l).1)
  | [], _ => ⟨_, rfl⟩
  | t :: r, h => by
    unfold pNames
    split
    · rename_i hk
      refine Has.seq (has_name ?_) (has_names r h.tail)
      have := h t (List.mem_cons_self ..) (.inl hk)
      rw [hk] at this
      exact this
    · exact ⟨_, rfl⟩
theorem has_atoms : ∀ l : List Tok, GoodW l → Good l → Has (oAtoms (pAtoms l).1)
  | [], _, _ => ⟨_, rfl⟩
  | t :: r, h, g => by
    unfold pAtoms
    split
    · rename_i hk
      refine Has.seq ?_ (has_atoms r h.tail g.tail)
      unfold oAtom
      split
      · exact ⟨_, rfl⟩
      · rename_i hn
        rcases hk with hk | hk
        · have := h t (List.mem_cons_self ..) (.inl hk)
          rw [hk] at this
          exact has_name this
        · exact absurd (g.head.int hk) hn
    · exact ⟨_, rfl⟩
def HasP {α : Type} (p : List Tok → PR α) (o : α → OT) : Prop := ∀ l, GoodW l → Good l → ∀ x r, p l = .ok (x, r) → Has (o x)
theorem Good.sfx {l r : List Tok} (h : Good l) (hr : r <:+ l) : Good r := fun u hu => h u (hr.subset hu)
theorem has_args {l r : List Tok} {as : List (List UInt8)} (hw : GoodW l) (h : pArgs l = .ok (as, r)) : Has (oArgs as) := by
  unfold pArgs at h
  split at h
  · obtain ⟨t, r1, h1, h⟩ := andT_ok h
    obtain ⟨u, r2, h2, h⟩ := andT_ok h
    obtain ⟨e1, hk⟩ := pKind_eats h1
    cases h
    unfold oArgs
    rw [if_neg (by simp)]
    have hw1 : GoodW (t :: r1) := by rw [← e1]; exact hw.sfx (List.tail_suffix l)
    have := hw1 t (List.mem_cons_self ..) (.inl hk)
    rw [hk] at this
    exact Has.seq (.ok _) (Has.seq (Has.seq (has_name this) (has_names r1 hw1.tail)) (.ok _))
  · cases h
    exact ⟨_, rfl⟩
theorem rest_ok {α : Type} {p : List Tok → PR α} (hs : Sfx p) {l r : List Tok} {a : α} (h : p l = .ok (a, r)) : r <:+ l := by
  have := hs l
  rw [h] at this
  exact this
theorem has_B (d : Nat) (hE : HasP (pExp d) (oE d)) : HasP (pBind (pExp d)) (oB (oE d)) := fun l hw hg x r h => by
  unfold pBind at h
  obtain ⟨t, r1, h1, h⟩ := andT_ok h
  obtain ⟨_, r2, h2, h⟩ := andT_ok h
  obtain ⟨as, r3, h3, h⟩ := andT_ok h
  obtain ⟨y, r4, h4, h⟩ := andT_ok h
  obtain ⟨_, r5, h5, h⟩ := andT_ok h
  cases h
  have s1 := rest_ok (kind_sfx 1) h1
  have s2 := (rest_ok (want_sfx _) h2).trans s1
  have s3 := (rest_ok args_sfx h3).trans s2
  obtain ⟨e1, hk⟩ := pKind_eats h1
  subst e1
  have w1 := hw t (List.mem_cons_self ..) (.inl hk)
  rw [hk] at w1
  exact Has.seq (has_name w1) (Has.seq (.ok _) (Has.seq (has_args (hw.sfx s2) h3) (Has.seq (hE r3 (hw.sfx s3) (hg.sfx s3) _ _ h4) (.ok _))))
theorem has_A (d : Nat) (hE : HasP (pExp d) (oE d)) : HasP (pAlt (pExp d)) (oA (oE d)) := fun l hw hg x r h => by
  unfold pAlt at h
  obtain ⟨z, r1, h1, h⟩ := andT_ok h
  obtain ⟨_, r2, h2, h⟩ := andT_ok h
  obtain ⟨y, r4, h4, h⟩ := andT_ok h
  obtain ⟨_, r5, h5, h⟩ := andT_ok h
  cases h
  have s1 := rest_ok head_sfx h1
  have s2 := (rest_ok (want_sfx _) h2).trans s1
  refine Has.seq ?_ (Has.seq (.ok _) (Has.seq (hE r2 (hw.sfx s2) (hg.sfx s2) _ _ h4) (.ok _)))
  cases l with
  | nil => cases h1
  | cons t q =>
    simp only [pHead] at h1
    unfold oHead
    split at h1
    · rename_i hk
      cases h1
      have w1 := hw t (List.mem_cons_self ..) (.inr (.inl hk))
      rw [hk] at w1
      simp only [if_true]
      exact Has.seq (has_name w1) (has_names q hw.tail)
    · split at h1
      · cases h1
        exact ⟨_, rfl⟩
      · split at h1
        · rename_i hk
          cases h1
          have w1 := hw t (List.mem_cons_self ..) (.inl hk)
          rw [hk] at w1
          exact has_name w1
        · cases h1
theorem has_many {α : Type} {one : List Tok → PR α} {o : α → OT} (h1 : HasP one o) (hs : Sfx one) : ∀ n l, GoodW l → Good l → ∀ xs r, manyF one n l = .ok (xs, r) → Has (oL o xs) ∧ xs ≠ []
  | 0, l, hw, hg, xs, r, h => by cases h
  | n + 1, l, hw, hg, xs, r, h => by
    unfold manyF at h
    obtain ⟨x, r1, h2, h⟩ := andT_ok h
    have s := rest_ok hs h2
    have hx := h1 l hw hg _ _ h2
    split at h
    · cases h
      exact ⟨Has.seq hx (.ok _), by simp⟩
    · obtain ⟨ys, r2, h3, h⟩ := andT_ok h
      cases h
      exact ⟨Has.seq hx (has_many h1 hs n r1 (hw.sfx s) (hg.sfx s) _ _ h3).1, by simp⟩
theorem oE_more : ∀ d x ts, oE d x = .ok ts → oE (d + 1) x = .ok ts
  | 0, x, ts, h => by cases h
  | d + 1, .mk k a n m at' bs ks as, ts, h => by
    have ih := oE_more d
    have ihB : ∀ x ts, oB (oE d) x = .ok ts → oB (oE (d + 1)) x = .ok ts := fun ⟨n, a, as, x⟩ ts h => by
      unfold oB at h ⊢
      obtain ⟨x1, y1, h1, g1, rfl⟩ := seqO_ok h
      obtain ⟨x2, y2, h2, g2, rfl⟩ := seqO_ok g1
      obtain ⟨x3, y3, h3, g3, rfl⟩ := seqO_ok g2
      obtain ⟨x4, y4, h4, h5, rfl⟩ := seqO_ok g3
      exact seqO_some h1 (seqO_some h2 (seqO_some h3 (seqO_some (ih _ _ h4) h5)))
    have ihA : ∀ x ts, oA (oE d) x = .ok ts → oA (oE (d + 1)) x = .ok ts := fun ⟨k, a, n, m, vs, x⟩ ts h => by
      unfold oA at h ⊢
      obtain ⟨x1, y1, h1, g1, rfl⟩ := seqO_ok h
      obtain ⟨x2, y2, h2, g2, rfl⟩ := seqO_ok g1
      obtain ⟨x4, y4, h4, h5, rfl⟩ := seqO_ok g2
      exact seqO_some h1 (seqO_some h2 (seqO_some (ih _ _ h4) h5))
    have ihL : ∀ {α : Type} (f g : α → OT), (∀ x ts, f x = .ok ts → g x = .ok ts) → ∀ l ts, oL f l = .ok ts → oL g l = .ok ts := fun f g hfg l => by
      induction l with
      | nil => intro ts h; exact h
      | cons x r ihr =>
        intro ts h
        obtain ⟨x1, y1, h1, h2, rfl⟩ := seqO_ok h
        exact seqO_some (hfg _ _ h1) (ihr _ h2)
    have ihK : ∀ l ts, oK (oE d) l = .ok ts → oK (oE (d + 1)) l = .ok ts := fun l ts h => by
      cases l with
      | nil => cases h
      | cons x r => exact ih _ _ h
    rw [oE] at h ⊢
    split at h
    · rename_i c; rw [if_pos c]; exact h
    · rename_i c
      rw [if_neg c]
      split at h
      · rename_i c2; rw [if_pos c2]; exact h
      · rename_i c2
        rw [if_neg c2]
        split at h
        · rename_i c3
          rw [if_pos c3]
          split at h
          · cases h
          · rename_i c4
            rw [if_neg c4]
            obtain ⟨x1, y1, h1, g1, rfl⟩ := seqO_ok h
            obtain ⟨x2, y2, h2, g2, rfl⟩ := seqO_ok g1
            obtain ⟨x3, y3, h3, h4, rfl⟩ := seqO_ok g2
            exact seqO_some h1 (seqO_some (ihL _ _ ihB _ _ h2) (seqO_some h3 (ihK _ _ h4)))
        · rename_i c3
          rw [if_neg c3]
          split at h
          · rename_i c5
            rw [if_pos c5]
            split at h
            · cases h
            · rename_i c4
              rw [if_neg c4]
              obtain ⟨x1, y1, h1, g1, rfl⟩ := seqO_ok h
              obtain ⟨x2, y2, h2, g2, rfl⟩ := seqO_ok g1
              obtain ⟨x3, y3, h3, g3, rfl⟩ := seqO_ok g2
              obtain ⟨x4, y4, h4, h5, rfl⟩ := seqO_ok g3
              exact seqO_some h1 (seqO_some (ihK _ _ h2) (seqO_some h3 (seqO_some (ihL _ _ ihA _ _ h4) h5)))
          · cases h
theorem has_E : ∀ d, HasP (pExp d) (oE d)
  | 0 => fun l hw hg x r h => by cases l <;> cases h
  | d + 1 => fun l hw hg x r h => by
    have ih := has_E d
    cases l with
    | nil => cases h
    | cons t q =>
      unfold pExp at h
      split at h
      · cases h
        exact ⟨[nuT t.num], by simp [oE]⟩
      · split at h
        · rename_i hk
          cases h
          have w1 := hw t (List.mem_cons_self ..) hk
          unfold oE
          rw [if_pos hk]
          exact Has.seq (has_name w1) (has_atoms q hw.tail hg.tail)
        · split at h
          · obtain ⟨_, r1, h1, h⟩ := andT_ok h
            obtain ⟨bs, r2, h2, h⟩ := andT_ok h
            obtain ⟨_, r3, h3, h⟩ := andT_ok h
            obtain ⟨y, r4, h4, h⟩ := andT_ok h
            cases h
            have s1 := (rest_ok (want_sfx _) h1).trans (List.suffix_cons t q)
            have s2 := (rest_ok (manyF_sfx (bind_sfx (exp_sfx d)) _) h2).trans s1
            have s3 := (rest_ok (want_sfx _) h3).trans s2
            obtain ⟨b1, b2⟩ := has_many (has_B d ih) (bind_sfx (exp_sfx d)) _ r1 (hw.sfx s1) (hg.sfx s1) _ _ h2
            have hy := ih r3 (hw.sfx s3) (hg.sfx s3) _ _ h4
            unfold oE
            simp only [show ¬ ((5 : Int) = 1 ∨ (5 : Int) = 2 ∨ (5 : Int) = 3) by decide, if_false, show ¬ (5 : Int) = 4 by decide, if_true]
            rw [if_neg (by simp [b2])]
            exact Has.seq (.ok _) (Has.seq b1 (Has.seq (.ok _) hy))
          · split at h
            · obtain ⟨y, r1, h1, h⟩ := andT_ok h
              obtain ⟨_, r2, h2, h⟩ := andT_ok h
              obtain ⟨_, r3, h3, h⟩ := andT_ok h
              obtain ⟨as, r4, h4, h⟩ := andT_ok h
              cases h
              have s0 := List.suffix_cons t q
              have s1 := (rest_ok (exp_sfx d) h1).trans s0
              have s2 := (rest_ok (want_sfx _) h2).trans s1
              have s3 := (rest_ok (want_sfx _) h3).trans s2
              obtain ⟨b1, b2⟩ := has_many (has_A d ih) (alt_sfx (exp_sfx d)) _ r3 (hw.sfx s3) (hg.sfx s3) _ _ h4
              have hy := ih q (hw.sfx s0) (hg.sfx s0) _ _ h1
              unfold oE
              simp only [show ¬ ((6 : Int) = 1 ∨ (6 : Int) = 2 ∨ (6 : Int) = 3) by decide, if_false, show ¬ (6 : Int) = 4 by decide, show ¬ (6 : Int) = 5 by decide, if_true]
              rw [if_neg (by simp [b2])]
              exact Has.seq (.ok _) (Has.seq hy (Has.seq (.ok _) (Has.seq b1 (.ok _))))
            · split at h
              · obtain ⟨y, r1, h1, h⟩ := andT_ok h
                obtain ⟨_, r2, h2, h⟩ := andT_ok h
                cases h
                have s0 := List.suffix_cons t q
                obtain ⟨ts, hts⟩ := ih q (hw.sfx s0) (hg.sfx s0) _ _ h1
                exact ⟨ts, oE_more _ _ _ hts⟩
              · cases h
theorem has_data : HasP pData oData := fun l hw hg x r h => by
  unfold pData at h
  obtain ⟨t, r1, h1, h⟩ := andT_ok h
  obtain ⟨n, r2, h2, h⟩ := andT_ok h
  obtain ⟨_, r3, h3, h⟩ := andT_ok h
  cases h
  obtain ⟨e1, hk⟩ := pKind_eats h1
  subst e1
  have w1 := hw t (List.mem_cons_self ..) (.inr (.inl hk))
  rw [hk] at w1
  exact Has.seq (.ok _) (Has.seq (has_name w1) (.ok _))
def HasL {α : Type} (o : α → OT) (l : List α) : Prop := ∃ x, oLs o l = .ok x
theorem HasL.cons {α : Type} {o : α → OT} {a : α} {l : List α} (h : Has (o a)) (hl : HasL o l) : HasL o (a :: l) := by
  obtain ⟨x, hx⟩ := h
  obtain ⟨y, hy⟩ := hl
  exact ⟨x :: y, by simp only [oLs, hx, hy]⟩
theorem has_datas : ∀ n l, GoodW l → Good l → ∀ xs r, pDatas n l = .ok (xs, r) → HasL oData xs
  | 0, l, hw, hg, xs, r, h => by cases h; exact ⟨_, rfl⟩
  | n + 1, l, hw, hg, xs, r, h => by
    unfold pDatas at h
    split at h
    · obtain ⟨d, r1, h1, h⟩ := andT_ok h
      obtain ⟨ds, r2, h2, h⟩ := andT_ok h
      cases h
      have s0 := List.tail_suffix l
      have s := (rest_ok data_sfx h1).trans s0
      exact HasL.cons (has_data _ (hw.sfx s0) (hg.sfx s0) _ _ h1) (has_datas n r1 (hw.sfx s) (hg.sfx s) _ _ h2)
    · cases h; exact ⟨_, rfl⟩
theorem has_binds : ∀ n l, GoodW l → Good l → ∀ xs r, pBinds n l = .ok (xs, r) → HasL (oB (oE 60)) xs
  | 0, l, hw, hg, xs, r, h => by cases l <;> (cases h; exact ⟨_, rfl⟩)
  | n + 1, l, hw, hg, xs, r, h => by
    cases l with
    | nil => cases h; exact ⟨_, rfl⟩
    | cons t q =>
      simp only [pBinds] at h
      obtain ⟨d, r1, h1, h⟩ := andT_ok h
      obtain ⟨ds, r2, h2, h⟩ := andT_ok h
      cases h
      have s := rest_ok (bind_sfx (exp_sfx 60)) h1
      exact HasL.cons (has_B 60 (has_E 60) _ hw hg _ _ h1) (has_binds n r1 (hw.sfx s) (hg.sfx s) _ _ h2)
theorem has_lines {s : List UInt8} {p : Pg} (h : parseT s = .ok p) : ∃ L, linesO p = .ok L := by
  unfold parseT at h
  split at h
  · cases h
  · rename_i ts hs
    split at h
    · rename_i q r hp
      cases h
      have hw := scan_goodW hs
      have hg := scan_good hs
      unfold pProg at hp
      obtain ⟨ds, r1, h1, hp⟩ := andT_ok hp
      obtain ⟨bs, r2, h2, hp⟩ := andT_ok hp
      cases hp
      have s1 := rest_ok (datas_sfx _) h1
      obtain ⟨x, hx⟩ := has_datas _ _ hw hg _ _ h1
      obtain ⟨y, hy⟩ := has_binds _ _ (hw.sfx s1) (hg.sfx s1) _ _ h2
      exact ⟨x ++ y, by simp only [linesO, hx, hy]⟩
    · cases h
end Go.Proofs.YtofgnpehlheeiaaGreatDoor
