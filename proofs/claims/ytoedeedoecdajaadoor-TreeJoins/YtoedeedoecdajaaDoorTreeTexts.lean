/- Layer 6, made ready: two texts in two lines; places of tokens; parentheses: of no program. -/
import Derived.Test.YtoedeedoecdajaaDoorTreeBlanks
import Derived.Test.YtoedeedoecdajaaDoorTreeJoin
import Derived.Test.YtoedeedoecdajaaDoorFirst
namespace Go.Proofs.YtoedeedoecdajaaDoor

/-! ## Two texts -/
def shiftS (k : Nat) : Except (Nat × Int) (List Tok) → Except (Nat × Int) (List Tok)
  | .ok ts => .ok (ts.map (reT (· + k)))
  | .error (p, e) => .error (p + k, e)
theorem shift_ahead (k : Nat) (t : Tok) (x) : shiftS k (ahead [t] x) = ahead [reT (· + k) t] (shiftS k x) := by
  rcases x with ⟨p, e⟩ | ts <;> rfl
theorem scanF_shift (k : Nat) : ∀ f l a, scanF f l (a + k) = shiftS k (scanF f l a)
  | 0, _, _ => rfl
  | f + 1, l, a => by
    by_cases hk : skipN false l < l.length
    · rcases hr : readT (l.drop (skipN false l)) with e | t
      · rw [scanF_err _ _ _ hk hr, scanF_err _ _ _ hk hr]
        simp only [shiftS]
        congr 2
        omega
      · rw [scanF_ok _ _ _ hk hr, scanF_ok _ _ _ hk hr, shift_ahead, ← scanF_shift k f]
        simp only [reT]
        rw [show a + k + skipN false l = a + skipN false l + k by omega, show a + skipN false l + k + t.len = a + skipN false l + t.len + k by omega]
    · rw [scanF_end _ _ _ hk, scanF_end _ _ _ hk]; rfl
theorem scan_lines {s t : List UInt8} {l m : List Tok} (hs : scanAll s = .ok l) (ht : scanAll t = .ok m) (hn : s.length + t.length < 16384) :
    scanAll (s ++ 10 :: t) = .ok (l ++ m.map (reT (· + (s.length + 1)))) := by
  unfold scanAll at hs ht ⊢
  rw [if_neg (by omega)] at hs ht
  rw [if_neg (by simp only [List.length_append, List.length_cons]; omega)]
  rw [scan_first t _ s 0 l (Nat.lt_succ_self _) hs _ (Nat.lt_succ_self _)]
  rw [show 0 + s.length + 1 = 0 + (s.length + 1) by omega, scanF_shift, scanF_more _ (t.length + 1) _ _ (by simp only [List.length_append, List.length_cons]; omega) (Nat.lt_succ_self _), ht]
  rfl
theorem parse_ok {s : List UInt8} {p : Pg} (h : parseT s = .ok p) : ∃ l r, scanAll s = .ok l ∧ pProg l = .ok (p, r) := by
  unfold parseT at h
  split at h
  · cases h
  · rename_i ts hs
    split at h
    · rename_i q r hp
      cases h
      exact ⟨ts, r, hs, hp⟩
    · cases h
theorem parse_two {s t : List UInt8} {p q : Pg} (hs : parseT s = .ok p) (ht : parseT t = .ok q) (hn : s.length + t.length < 16384) (h : p.binds = [] ∨ q.datas = []) :
    parseT (s ++ 10 :: t) = .ok ⟨p.datas ++ q.datas.map (reD (· + (s.length + 1))), p.binds ++ q.binds.map (reB (· + (s.length + 1)))⟩ := by
  obtain ⟨l, r, h1, h2⟩ := parse_ok hs
  obtain ⟨m, r', h3, h4⟩ := parse_ok ht
  unfold parseT
  rw [scan_lines h1 h3 hn]
  have M := prog_moved (· + (s.length + 1)) m
  rw [h4] at M
  have A := prog_app h2 M (h.imp id fun z => by simp only [rePg, z, List.map_nil])
  simp only [A, rePg]

/-! ## Where tokens stand -/
theorem scanF_at : ∀ f l a ts, scanF f l a = .ok ts → (∀ t ∈ ts, a ≤ t.at' ∧ t.at' < a + l.length) ∧ ts.Pairwise (fun t u => t.at' < u.at')
  | 0, _, _, _, h => by cases h; exact ⟨fun t ht => (by cases ht), .nil⟩
  | f + 1, l, a, ts, h => by
    by_cases hk : skipN false l < l.length
    · rcases hr : readT (l.drop (skipN false l)) with e | t
      · rw [scanF_err _ _ _ hk hr] at h; cases h
      · have hl := readT_len hr
        simp only [List.length_drop] at hl
        rw [scanF_ok _ _ _ hk hr] at h
        rcases hq : scanF f ((l.drop (skipN false l)).drop t.len) (a + skipN false l + t.len) with e | us
        · rw [hq] at h; cases h
        · rw [hq] at h
          cases h
          obtain ⟨i1, i2⟩ := scanF_at f _ _ _ hq
          simp only [List.length_drop] at i1
          refine ⟨fun u hu => ?_, ?_⟩
          · rcases List.mem_append.1 hu with z | z
            · rw [List.mem_singleton] at z; subst z; simp only; omega
            · have := i1 u z; omega
          · rw [List.singleton_append, List.pairwise_cons]
            exact ⟨fun u hu => by have := (i1 u hu).1; simp only; omega, i2⟩
    · rw [scanF_end _ _ _ hk] at h
      cases h
      exact ⟨fun t ht => (by cases ht), .nil⟩
theorem scan_at {l : List UInt8} {ts : List Tok} (h : scanAll l = .ok ts) : (∀ t ∈ ts, t.at' < l.length) ∧ ts.Pairwise (fun t u => t.at' < u.at') := by
  unfold scanAll at h
  split at h
  · cases h
  · obtain ⟨a, b⟩ := scanF_at _ _ _ _ h
    exact ⟨fun t ht => by have := (a t ht).2; omega, b⟩
theorem scan_at_inj {l : List UInt8} {ts : List Tok} (h : scanAll l = .ok ts) {i j : Nat} (hi : i < ts.length) (hj : j < ts.length) (e : (ts[i]'hi).at' = (ts[j]'hj).at') : i = j := by
  have P := List.pairwise_iff_getElem.1 (scan_at h).2
  rcases Nat.lt_trichotomy i j with z | z | z
  · have := P i j hi hj z; omega
  · exact z
  · have := P j i hj hi z; omega
theorem place_drop (n : Nat) (l : List Tok) (i : Nat) : placeT n (l.drop i) = if h : i < l.length then (l[i]'h).at' else n := by
  split
  · rename_i h
    rw [List.drop_eq_getElem_cons h]
    rfl
  · rename_i h
    rw [List.drop_eq_nil_of_le (by omega)]
    rfl

/-! ## Parentheses -/
theorem scan_head (f : Nat) {l : List UInt8} (a : Nat) {t : Tk} (h0 : skipN false l = 0) (hr : readT l = .ok t) : scanF (f + 1) l a = ahead [⟨t.kind, t.text, t.num, a⟩] (scanF f (l.drop t.len) (a + t.len)) := by
  have hl := readT_len hr
  have := scanF_ok f l a (by rw [h0]; omega) (t := t) (by rw [h0]; exact hr)
  rw [h0, Nat.add_zero] at this
  exact this
theorem sign_head (f : Nat) (r : List UInt8) (a : Nat) (c : UInt8) (hc : c = 40 ∨ c = 41 ∨ c = 59 ∨ c = 61) : scanF (f + 1) (c :: r) a = ahead [⟨5, [c], 0, a⟩] (scanF f r (a + 1)) := by
  have h1 : skipN false (c :: r) = 0 := by rcases hc with rfl | rfl | rfl | rfl <;> simp [skipN, bl]
  have h2 : readT (c :: r) = .ok ⟨5, [c], 0, 1⟩ := by rcases hc with rfl | rfl | rfl | rfl <;> simp [readT, one, sm, gr, dg, sg]
  have := scan_head f a h1 h2
  exact this
def tokR (c : UInt8) : Nat → Nat → List Tok
  | 0, _ => []
  | n + 1, a => ⟨5, [c], 0, a⟩ :: tokR c n (a + 1)
theorem signs_head (c : UInt8) (hc : c = 40 ∨ c = 41) : ∀ (n f : Nat) (r : List UInt8) (a : Nat), n + r.length < f → scanF f (List.replicate n c ++ r) a = ahead (tokR c n a) (scanF f r (a + n))
  | 0, f, r, a, _ => by rw [tokR, ahead_nil]; rfl
  | n + 1, 0, r, a, h => absurd h (Nat.not_lt_zero _)
  | n + 1, f + 1, r, a, h => by
    rw [List.replicate_succ, List.cons_append, sign_head f _ a c (by rcases hc with z | z <;> simp [z]), signs_head c hc n f r (a + 1) (by omega), tokR, ahead_ahead, scanF_more f (f + 1) r _ (by omega) (by omega)]
    rw [show a + 1 + n = a + (n + 1) by omega]
    rfl
theorem name_head {name : List UInt8} {t : Tk} (hr : readT name = .ok t) (hk : t.kind = 1) (hl : t.len = name.length) (c : UInt8) (hc : c = 41 ∨ c = 59) (r : List UInt8) (f a : Nat) :
    scanF (f + 1) (name ++ c :: r) a = ahead [⟨1, name, 0, a⟩] (scanF f (c :: r) (a + name.length)) ∧ name ≠ [] := by
  unfold readT at hr
  split at hr
  · rename_i t' ho
    split at hr
    · cases hr
    · rename_i h32
      cases hr
      cases name with
      | nil => cases ho
      | cons d q =>
        have hrn : rn c.toNat = false := by rcases hc with rfl | rfl <;> decide
        simp only [one] at ho
        split at ho
        · rename_i hs
          cases ho
          simp only at hl hk h32
          have hnr : ¬ resv ((d :: q).take (runN rn (d :: q))) = true := by
            intro z
            rw [if_pos z] at hk
            exact absurd hk (by decide)
          have R := run_app rn c hrn r (d :: q)
          rw [hl, List.take_length] at hnr h32
          have h2 : readT (d :: q ++ c :: r) = .ok ⟨1, d :: q, 0, (d :: q).length⟩ := by
            have R' : runN rn (d :: (q ++ c :: r)) = (d :: q).length := by rw [← List.cons_append, R, hl]
            have T : (d :: (q ++ c :: r)).take (d :: q).length = d :: q := by rw [← List.cons_append, List.take_left]
            simp only [readT, one, List.cons_append, hs, if_true, R', T, if_neg hnr, if_neg h32]
          have h1 : skipN false (d :: q ++ c :: r) = 0 := by
            simp only [sm, decide_eq_true_eq] at hs
            have b1 : bl d.toNat = false := by simp only [bl, decide_eq_false_iff_not]; omega
            simp only [List.cons_append, skipN, b1]
            rw [if_neg (by decide), if_neg (by rintro ⟨z, _⟩; omega)]
          have H := scan_head f a h1 h2
          simp only [List.drop_left] at H
          exact ⟨H, by simp⟩
        · split at ho
          · cases ho; exact absurd hk (by simp)
          · split at ho
            · cases ho; exact absurd hk (by simp)
            · split at ho
              · split at ho
                · cases ho; exact absurd hk (by simp)
                · cases ho
              · split at ho
                · cases ho; exact absurd hk (by simp)
                · split at ho
                  · cases ho; exact absurd hk (by simp)
                  · cases ho
  · cases hr

/-- the text of TreeNests -/
def nestS (n : Nat) (name : List UInt8) : List UInt8 := [102, 32, 61, 32] ++ (List.replicate n 40 ++ (name ++ (List.replicate n 41 ++ [59])))
def nestT (n : Nat) (name : List UInt8) : List Tok := ⟨1, [102], 0, 0⟩ :: ⟨5, [61], 0, 2⟩ :: (tokR 40 n 4 ++ (⟨1, name, 0, 4 + n⟩ :: (tokR 41 n (4 + n + name.length) ++ [⟨5, [59], 0, 4 + n + name.length + n⟩])))
theorem scan_blank (X : List UInt8) : ∀ F a, scanF F (32 :: X) a = scanF F X (a + 1)
  | 0, _ => rfl
  | F + 1, a => by
    have hs : skipN false (32 :: X) = skipN false X + 1 := by simp [skipN, bl]
    have hd : (32 :: X).drop (skipN false (32 :: X)) = X.drop (skipN false X) := by rw [hs, List.drop_succ_cons]
    by_cases hk : skipN false X < X.length
    · have hk' : skipN false (32 :: X) < (32 :: X).length := by rw [hs, List.length_cons]; omega
      rcases hr : readT (X.drop (skipN false X)) with e | t
      · rw [scanF_err _ _ _ hk hr, scanF_err _ _ _ hk' (by rw [hd]; exact hr), hs]
        congr 2
        omega
      · rw [scanF_ok _ _ _ hk hr, scanF_ok _ _ _ hk' (by rw [hd]; exact hr), hd, hs]
        rw [show a + (skipN false X + 1) = a + 1 + skipN false X by omega]
    · rw [scanF_end _ _ _ hk, scanF_end _ _ _ (by rw [hs, List.length_cons]; omega)]
theorem nest_scan {name : List UInt8} {t : Tk} (hr : readT name = .ok t) (hk : t.kind = 1) (hl : t.len = name.length) (n : Nat) (hn : n ≤ 255) (hm : name.length ≤ 32) : scanAll (nestS n name) = .ok (nestT n name) := by
  have hlen : (nestS n name).length = 4 + n + name.length + n + 1 := by simp only [nestS, List.length_append, List.length_cons, List.length_nil, List.length_replicate]; omega
  unfold scanAll
  rw [if_neg (by omega), hlen]
  have e0 : ∀ F X, scanF (F + 1) (102 :: 32 :: X) 0 = ahead [⟨1, [102], 0, 0⟩] (scanF F (32 :: X) 1) := fun F X => by
    have h1 : skipN false (102 :: 32 :: X) = 0 := by simp [skipN, bl]
    have h2 : readT (102 :: 32 :: X) = .ok ⟨1, [102], 0, 1⟩ := by simp [readT, one, sm, runN, rn, resv]
    exact scan_head F 0 h1 h2
  have l1 : (List.replicate n (41 : UInt8) ++ [59]).length = n + 1 := by simp
  have N := fun f a => (name_head hr hk hl 41 (.inl rfl) (List.replicate (n - 1) 41 ++ [59]) f a).1
  have N' := fun f a => (name_head hr hk hl 59 (.inr rfl) [] f a).1
  have NN : ∀ f a, scanF (f + 1) (name ++ (List.replicate n 41 ++ [59])) a = ahead [⟨1, name, 0, a⟩] (scanF f (List.replicate n 41 ++ [59]) (a + name.length)) := fun f a => by
    cases n with
    | zero => exact N' f a
    | succ n => exact N f a
  unfold nestS nestT
  simp only [List.cons_append, List.nil_append]
  rw [show 4 + n + name.length + n + 1 + 1 = (4 + n + name.length + n) + 1 + 1 by omega, e0, scan_blank, sign_head _ _ _ 61 (by simp), scan_blank]
  rw [signs_head 40 (.inl rfl) n _ _ _ (by simp only [List.length_append, l1]; omega)]
  rw [show 4 + n + name.length + n = (3 + n + name.length + n) + 1 by omega, NN]
  rw [signs_head 41 (.inr rfl) n _ _ _ (by simp only [List.length_cons, List.length_nil]; omega)]
  rw [show 3 + n + name.length + n = (2 + n + name.length + n) + 1 by omega, sign_head _ _ _ 59 (by simp), scanF_end _ _ _ (by simp [skipN])]
  simp [ahead]
  omega
theorem tokR_snoc (c : UInt8) : ∀ n a, tokR c (n + 1) a = tokR c n a ++ [⟨5, [c], 0, a + n⟩]
  | 0, a => rfl
  | n + 1, a => by
    rw [tokR, tokR_snoc c n (a + 1), show a + 1 + n = a + (n + 1) by omega]
    rfl
theorem nest_exp (name : List UInt8) (c : Nat) : ∀ (n d a b : Nat) (u : Tok) (R : List Tok), u.kind = 5 →
    pExp d (tokR 40 n a ++ (⟨1, name, 0, c⟩ :: (tokR 41 n b ++ u :: R))) = if n < d then .ok (.mk 1 c name 0 [] [] [] [], u :: R) else .error (24, (tokR 40 n a ++ (⟨1, name, 0, c⟩ :: (tokR 41 n b ++ u :: R))).drop d)
  | n, 0, a, b, u, R, hu => by
    rw [if_neg (Nat.not_lt_zero _)]
    cases n <;> rfl
  | 0, d + 1, a, b, u, R, hu => by
    have : pAtoms (u :: R) = ([], u :: R) := by simp [pAtoms, hu]
    simp [tokR, pExp, this]
  | n + 1, d + 1, a, b, u, R, hu => by
    have ih := nest_exp name c n d (a + 1) b ⟨5, [41], 0, b + n⟩ (u :: R) rfl
    rw [tokR_snoc 41 n b, tokR, List.append_assoc, List.singleton_append, List.cons_append]
    generalize hX : tokR 40 n (a + 1) ++ (⟨1, name, 0, c⟩ :: (tokR 41 n b ++ ⟨5, [41], 0, b + n⟩ :: u :: R)) = X at ih
    have s1 : isS [108, 101, 116] ((⟨5, [40], 0, a⟩ : Tok) :: X) = false := rfl
    have s2 : isS [99, 97, 115, 101] ((⟨5, [40], 0, a⟩ : Tok) :: X) = false := rfl
    have s3 : isS [40] ((⟨5, [40], 0, a⟩ : Tok) :: X) = true := rfl
    simp only [pExp, s1, s2, s3, if_true]
    rw [if_neg (by decide), if_neg (by decide), if_neg (by decide), if_neg (by decide), ih]
    by_cases h : n < d
    · rw [if_pos h, if_pos (by omega)]
      rfl
    · rw [if_neg h, if_neg (by omega)]
      rfl
theorem tokR_drop (c : UInt8) : ∀ n d a, d ≤ n → (tokR c n a).drop d = tokR c (n - d) (a + d)
  | n, 0, a, _ => by simp
  | 0, d + 1, _, h => absurd h (by omega)
  | n + 1, d + 1, a, h => by
    rw [tokR, List.drop_succ_cons, tokR_drop c n d (a + 1) (by omega), show n + 1 - (d + 1) = n - d by omega, show a + 1 + d = a + (d + 1) by omega]
theorem tokR_length (c : UInt8) : ∀ n a, (tokR c n a).length = n
  | 0, _ => rfl
  | n + 1, a => by rw [tokR, List.length_cons, tokR_length]
theorem nest_parse {name : List UInt8} {t : Tk} (hr : readT name = .ok t) (hk : t.kind = 1) (hl : t.len = name.length) (n : Nat) (hn : n ≤ 255) (hm : name.length ≤ 32) :
    parseT (nestS n name) = if n < 60 then .ok ⟨[], [.mk [102] 0 [] (.mk 1 ((4 + n : Nat) : Int) name 0 [] [] [] [])]⟩ else .error (64, 24) := by
  unfold parseT
  rw [nest_scan hr hk hl n hn hm]
  have X := nest_exp name (4 + n) n 60 4 (4 + n + name.length) ⟨5, [59], 0, 4 + n + name.length + n⟩ [] rfl
  simp only [nestT]
  generalize hL : tokR 40 n 4 ++ (⟨1, name, 0, 4 + n⟩ :: (tokR 41 n (4 + n + name.length) ++ [⟨5, [59], 0, 4 + n + name.length + n⟩])) = L at X
  have hA : pArgs L = .ok ([], L) := by
    have : isS [92] L = false := by
      subst hL
      cases n <;> rfl
    unfold pArgs
    rw [this]
    rfl
  have hD : pDatas ((⟨1, [102], 0, 0⟩ :: ⟨5, [61], 0, 2⟩ :: L : List Tok).length + 1) (⟨1, [102], 0, 0⟩ :: ⟨5, [61], 0, 2⟩ :: L) = .ok ([], ⟨1, [102], 0, 0⟩ :: ⟨5, [61], 0, 2⟩ :: L) := by
    unfold pDatas
    rfl
  unfold pProg
  rw [andT_eq hD]
  have hK : pKind 1 (⟨1, [102], 0, 0⟩ :: ⟨5, [61], 0, 2⟩ :: L) = .ok (⟨1, [102], 0, 0⟩, ⟨5, [61], 0, 2⟩ :: L) := rfl
  have hW : pWant [61] ((⟨5, [61], 0, 2⟩ : Tok) :: L) = .ok ((), L) := rfl
  simp only [pBinds, pBind]
  rw [andT_eq hK, andT_eq hW, andT_eq hA, X]
  by_cases h : n < 60
  · rw [if_pos h, if_pos h]
    rfl
  · rw [if_neg h, if_neg h]
    have hp : placeT (nestS n name).length (L.drop 60) = 64 := by
      rw [← hL, List.drop_append, tokR_length, tokR_drop 40 n 60 4 (by omega)]
      rcases Nat.lt_or_ge 60 n with z | z
      · obtain ⟨k, hk⟩ : ∃ k, n - 60 = k + 1 := ⟨n - 61, by omega⟩
        rw [hk]
        rfl
      · obtain rfl : n = 60 := by omega
        rfl
    simp only [andT, hp]

/-! ## The same, but for the places -/
mutual
theorem sameE_re (g : Nat → Nat) : ∀ x : E, sameE (reE g x) x = true
  | .mk k a n m ts bs ks as => by
    have h1 := sameBs_re g bs
    have h2 := sameK_re g ks
    have h3 := sameAs_re g as
    simp only [reE, sameE, h1, h2, h3, sameAtm_self]
    simp
theorem sameB_re (g : Nat → Nat) : ∀ x : B, sameB (reB g x) x = true
  | .mk n a as x => by
    have h1 := sameE_re g x
    simp only [reB, sameB, h1]
    simp
theorem sameA_re (g : Nat → Nat) : ∀ x : A, sameA (reA g x) x = true
  | .mk k a n m vs x => by
    have h1 := sameE_re g x
    simp only [reA, sameA, h1]
    simp
theorem sameK_re (g : Nat → Nat) : ∀ x : List E, sameK (reEs g x) x = true
  | [] => by simp [reEs, sameK]
  | x :: r => by
    have h1 := sameE_re g x
    simp only [reEs, sameK, h1]
theorem sameBs_re (g : Nat → Nat) : ∀ x : List B, sameBs (reBs g x) x = true
  | [] => by simp [reBs, sameBs]
  | x :: r => by
    have h1 := sameB_re g x
    have h2 := sameBs_re g r
    simp only [reBs, sameBs, h1, h2]
    rfl
theorem sameAs_re (g : Nat → Nat) : ∀ x : List A, sameAs (reAs g x) x = true
  | [] => by simp [reAs, sameAs]
  | x :: r => by
    have h1 := sameA_re g x
    have h2 := sameAs_re g r
    simp only [reAs, sameAs, h1, h2]
    rfl
end
theorem sameDs_re (g : Nat → Nat) : ∀ l : List D, sameDs (l.map (reD g)) l = true
  | [] => rfl
  | x :: r => by simp [sameDs, reD, sameDs_re g r]
/-- the law's answer for two texts -/
theorem same_two (p q : Pg) (g : Nat → Nat) : sameP ⟨p.datas ++ q.datas.map (reD g), p.binds ++ q.binds.map (reB g)⟩ ⟨p.datas ++ q.datas, p.binds ++ q.binds⟩ = true ∧
    sizeP ⟨p.datas ++ q.datas.map (reD g), p.binds ++ q.binds.map (reB g)⟩ = sizeP p + sizeP q := by
  constructor
  · simp only [sameP, Bool.and_eq_true]
    refine ⟨sameDs_app _ _ _ _ (sameDs_self _) (sameDs_re g _), sameBs_app _ _ _ _ (sameBs_self _) ?_⟩
    rw [← reBs_map]
    exact sameBs_re g _
  · simp only [sizeP, cntBs_app]
    rw [← reBs_map, cntBs_moved]

end Go.Proofs.YtoedeedoecdajaaDoor
