/- Layer 7 (show): the text of a program, read again; what it looks like. -/
import Derived.Test.YtofgnpehlheeiaaGreatDoorPrg
namespace Go.Proofs.YtofgnpehlheeiaaGreatDoor
set_option linter.unusedVariables false
set_option linter.unusedSimpArgs false

def lineT (x : List ATok) : List UInt8 := (joinL x).dropLast ++ [10]
def textL (L : List (List ATok)) : List UInt8 := L.flatMap lineT
/-- what Print answers -/
def printR (p : Pg) : Except Int (List UInt8) :=
  match linesO p with
  | .ok L => if 16384 < (textL L).length then .error 3 else .ok (textL L)
  | .error c => .error c
def textS : Except Int (List UInt8) → List UInt8
  | .ok s => s
  | .error _ => []
def textE : Except Int (List UInt8) → Int
  | .ok _ => 0
  | .error e => e

/-! ## tokens that are told -/
/-- bytes that a token is written with: no blank, no parenthesis, and a dash at its beginning alone -/
def tokP (u : List UInt8) : Prop := ∃ c r, u = c :: r ∧ (∀ x ∈ u, x ≠ 40 ∧ x ≠ 41 ∧ x ≠ 9 ∧ x ≠ 13 ∧ x ≠ 10) ∧ ∀ x ∈ r, x ≠ 45
def goodT (t : ATok) : Prop := okT t = true ∧ In64 t.num ∧ tokP (writ t)
theorem rn_byte {c : UInt8} (h : rn c.toNat = true) : (c ≠ 40 ∧ c ≠ 41 ∧ c ≠ 9 ∧ c ≠ 13 ∧ c ≠ 10) ∧ c ≠ 45 := by
  simp only [rn, decide_eq_true_eq] at h
  refine ⟨⟨?_, ?_, ?_, ?_, ?_⟩, ?_⟩ <;> (rintro rfl; exact absurd h (by decide))
theorem run_rn (p : Int → Bool) : ∀ l : List UInt8, runN p l = l.length → ∀ c ∈ l, p c.toNat = true
  | [], _, c, hc => by cases hc
  | d :: r, h, c, hc => by
    unfold runN at h
    split at h
    · rename_i hd
      rcases List.mem_cons.1 hc with z | z
      · rw [z]; exact hd
      · exact run_rn p r (by simpa using h) c z
    · simp at h
theorem word_bytes {k : Int} {s : List UInt8} (h : wordB s k = true) : tokP s := by
  obtain ⟨hk, hj⟩ := word_kind h
  unfold justT at hj
  cases e : readT s with
  | error er => rw [e] at hj; cases hj
  | ok t =>
    rw [e] at hj
    simp only [Bool.and_eq_true, decide_eq_true_eq] at hj
    obtain ⟨h1, _⟩ := readT_one e
    cases s with
    | nil => cases h1
    | cons c r =>
      have all : (∀ x ∈ r, rn x.toNat = true) → (rn c.toNat = true ∨ c.toNat = 35) → tokP (c :: r) := fun hr hc =>
        ⟨c, r, rfl, fun x hx => by
          rcases List.mem_cons.1 hx with z | z
          · rw [z]
            rcases hc with hc | hc
            · exact (rn_byte hc).1
            · refine ⟨?_, ?_, ?_, ?_, ?_⟩ <;> (rintro rfl; exact absurd hc (by decide))
          · exact (rn_byte (hr x z)).1, fun x hx => (rn_byte (hr x hx)).2⟩
      unfold one at h1
      simp only at h1
      split at h1
      · cases h1
        have H := run_rn rn (c :: r) hj.2
        exact all (fun x hx => H x (List.mem_cons_of_mem _ hx)) (.inl (H c (List.mem_cons_self ..)))
      · split at h1
        · cases h1
          have H := run_rn rn (c :: r) hj.2
          exact all (fun x hx => H x (List.mem_cons_of_mem _ hx)) (.inl (H c (List.mem_cons_self ..)))
        · split at h1
          · rename_i hs
            cases h1
            have H := run_rn rn r (by have := hj.2; simp only [List.length_cons] at this; omega)
            exact all H (.inr hs.1)
          · split at h1
            · split at h1
              · cases h1; simp only at hj; omega
              · cases h1
            · split at h1
              · cases h1; simp only at hj; omega
              · split at h1
                · cases h1; simp only at hj; omega
                · cases h1
theorem dg_byte {c : UInt8} (h : dg c.toNat = true) : (c ≠ 40 ∧ c ≠ 41 ∧ c ≠ 9 ∧ c ≠ 13 ∧ c ≠ 10) ∧ c ≠ 45 := by
  simp only [dg, decide_eq_true_eq] at h
  refine ⟨⟨?_, ?_, ?_, ?_, ?_⟩, ?_⟩ <;> (rintro rfl; exact absurd h (by decide))
theorem itoa_bytes (n : Int) : tokP (Lib.itoa n) := by
  unfold Lib.itoa
  by_cases hn : n < 0
  · rw [if_pos hn]
    obtain ⟨v, a, ne⟩ := dec_val n.natAbs
    generalize Lib.decDigits n.natAbs = D at *
    exact ⟨45, D, rfl, fun x hx => by
      rcases List.mem_cons.1 hx with z | z
      · rw [z]; decide
      · exact (dg_byte (a x z)).1, fun x hx => (dg_byte (a x hx)).2⟩
  · rw [if_neg hn]
    obtain ⟨v, a, ne⟩ := dec_val n.toNat
    generalize Lib.decDigits n.toNat = D at *
    cases D with
    | nil => exact absurd rfl ne
    | cons c r => exact ⟨c, r, rfl, fun x hx => (dg_byte (a x hx)).1, fun x hx => (dg_byte (a x (List.mem_cons_of_mem _ hx))).2⟩
theorem good_na {k : Int} {s : List UInt8} (h : wordB s k = true) : goodT (naT k s) := by
  obtain ⟨hk, hj⟩ := word_kind h
  refine ⟨?_, ⟨by simp, by simp⟩, ?_⟩
  · simp only [okT, hj]
    rcases hk with rfl | rfl | rfl <;> rfl
  · unfold writ
    rw [if_neg (by simp only; omega)]
    exact word_bytes h
theorem good_nu {n : Int} (h : In64 n) : goodT (nuT n) := ⟨rfl, h, itoa_bytes n⟩
theorem good_sg {s : List UInt8} (h : s = [92] ∨ s = [61] ∨ s = [59] ∨ s = [123] ∨ s = [125] ∨ s = [45, 62]) : goodT (sgT s) := by
  rcases h with rfl | rfl | rfl | rfl | rfl | rfl <;> exact ⟨rfl, ⟨by simp, by simp⟩, _, _, rfl, by simp [writ], by simp⟩
theorem good_wd {s : List UInt8} (h : s = [108, 101, 116] ∨ s = [105, 110] ∨ s = [99, 97, 115, 101] ∨ s = [111, 102] ∨ s = [100, 97, 116, 97]) : goodT (wdT s) := by
  rcases h with rfl | rfl | rfl | rfl | rfl <;> exact ⟨rfl, ⟨by simp, by simp⟩, _, _, rfl, by simp [writ], by simp⟩
def GoodO (o : OT) : Prop := ∀ ts, o = .ok ts → ∀ t ∈ ts, goodT t
theorem GoodO.seq {a b : OT} (ha : GoodO a) (hb : GoodO b) : GoodO (seqO a b) := fun ts h t ht => by
  obtain ⟨x, y, h1, h2, rfl⟩ := seqO_ok h
  rcases List.mem_append.1 ht with z | z
  · exact ha x h1 t z
  · exact hb y h2 t z
theorem GoodO.err (c : Int) : GoodO (.error c) := fun ts h => by cases h
theorem GoodO.lit {l : List ATok} (h : ∀ t ∈ l, goodT t) : GoodO (.ok l) := fun ts e t ht => by cases e; exact h t ht
theorem GoodO.one {t : ATok} (h : goodT t) : GoodO (.ok [t]) := .lit (fun u hu => by rw [List.mem_singleton] at hu; rw [hu]; exact h)
theorem GoodO.two {t u : ATok} (h : goodT t) (k : goodT u) : GoodO (.ok [t, u]) := .lit (fun x hx => by
  simp only [List.mem_cons, List.not_mem_nil, or_false] at hx
  rcases hx with z | z
  · rw [z]; exact h
  · rw [z]; exact k)
theorem GoodO.nil : GoodO (.ok []) := .lit (fun u hu => by cases hu)
theorem good_name (k : Int) (s : List UInt8) : GoodO (oName k s) := fun ts h t ht => by
  obtain ⟨rfl, hw⟩ := oName_ok h
  rw [List.mem_singleton] at ht
  rw [ht]
  exact good_na hw
theorem good_L {α : Type} {f : α → OT} : ∀ l : List α, (∀ x ∈ l, GoodO (f x)) → GoodO (oL f l)
  | [], _ => .nil
  | x :: r, h => (h x (List.mem_cons_self ..)).seq (good_L r (fun y hy => h y (List.mem_cons_of_mem _ hy)))
theorem good_names (l : List (List UInt8)) : GoodO (oNames l) := by rw [oNames_L]; exact good_L l (fun x _ => good_name 1 x)
theorem good_atoms (l : List Atm) (h : ∀ a ∈ l, In64 a.num) : GoodO (oAtoms l) := by
  rw [oAtoms_L]
  refine good_L l (fun x hx => ?_)
  unfold oAtom
  split
  · exact .one (good_nu (h x hx))
  · exact good_name 1 _
theorem good_args (l : List (List UInt8)) : GoodO (oArgs l) := by
  unfold oArgs
  split
  · exact .nil
  · exact GoodO.seq (.one (good_sg (by simp))) ((good_names l).seq (.one (good_sg (by simp))))
theorem good_B {ex : E → OT} (hE : ∀ x, finE x → GoodO (ex x)) : ∀ x : B, finB x → GoodO (oB ex x)
  | .mk n a al x, hf => by
    unfold oB
    simp only [finB] at hf
    exact (good_name 1 n).seq (GoodO.seq (.one (good_sg (by simp))) ((good_args al).seq ((hE x hf).seq (.one (good_sg (by simp))))))
theorem good_A {ex : E → OT} (hE : ∀ x, finE x → GoodO (ex x)) : ∀ x : A, finA x → GoodO (oA ex x)
  | .mk k a n m vs x, hf => by
    unfold oA
    simp only [finA] at hf
    refine GoodO.seq ?_ (GoodO.seq (.one (good_sg (by simp))) ((hE x hf.2).seq (.one (good_sg (by simp)))))
    unfold oHead
    split
    · exact (good_name 2 n).seq (good_names vs)
    · split
      · exact .one (good_nu hf.1)
      · split
        · exact good_name 1 n
        · exact .err 2
theorem finBs_mem : ∀ (l : List B), finBs l → ∀ x ∈ l, finB x
  | [], _, x, hx => by cases hx
  | y :: r, h, x, hx => by
    simp only [finBs] at h
    rcases List.mem_cons.1 hx with z | z
    · rw [z]; exact h.1
    · exact finBs_mem r h.2 x z
theorem finAs_mem : ∀ (l : List A), finAs l → ∀ x ∈ l, finA x
  | [], _, x, hx => by cases hx
  | y :: r, h, x, hx => by
    simp only [finAs] at h
    rcases List.mem_cons.1 hx with z | z
    · rw [z]; exact h.1
    · exact finAs_mem r h.2 x z
theorem good_E : ∀ (d : Nat) (x : E), finE x → GoodO (oE d x)
  | 0, x, _ => .err 24
  | d + 1, .mk k a n m az bs ks al, hf => by
    have ih := good_E d
    simp only [finE] at hf
    obtain ⟨f1, f2, f3, f4, f5⟩ := hf
    have hK : GoodO (oK (oE d) ks) := by
      cases ks with
      | nil => exact .err 2
      | cons x r => exact ih x (finEs_head f4)
    unfold oE
    split
    · exact (good_name k n).seq (good_atoms az f2)
    · split
      · exact .one (good_nu f1)
      · split
        · split
          · exact .err 2
          · exact GoodO.seq (.two (good_wd (by simp)) (good_sg (by simp))) ((good_L bs (fun x hx => good_B ih x (finBs_mem bs f3 x hx))).seq (GoodO.seq (.two (good_sg (by simp)) (good_wd (by simp))) hK))
        · split
          · split
            · exact .err 2
            · exact GoodO.seq (.one (good_wd (by simp))) (hK.seq (GoodO.seq (.two (good_wd (by simp)) (good_sg (by simp))) ((good_L al (fun x hx => good_A ih x (finAs_mem al f5 x hx))).seq (.one (good_sg (by simp))))))
          · exact .err 2
theorem good_D (d : D) (h : In64 d.arity) : GoodO (oData d) := by
  unfold oData
  exact GoodO.seq (.one (good_wd (by simp))) ((good_name 2 _).seq (.two (good_nu h) (good_sg (by simp))))
/-- a line: some tokens, and a semicolon behind them -/
def LineO (x : List ATok) : Prop := (∃ y, x = y ++ [sgT [59]] ∧ y ≠ []) ∧ ∀ t ∈ x, goodT t
theorem end_ok {a : OT} {t : ATok} {x : List ATok} (h : seqO a (.ok [t]) = .ok x) : ∃ y, a = .ok y ∧ x = y ++ [t] := by
  obtain ⟨y, z, h1, h2, rfl⟩ := seqO_ok h
  cases h2
  exact ⟨y, h1, rfl⟩
theorem line_D (d : D) (h : In64 d.arity) (x : List ATok) (hx : oData d = .ok x) : LineO x := by
  refine ⟨?_, good_D d h x hx⟩
  unfold oData at hx
  obtain ⟨x1, y1, h1, g1, rfl⟩ := seqO_ok hx
  obtain ⟨x2, y2, h2, h3, rfl⟩ := seqO_ok g1
  cases h1; cases h3
  exact ⟨[wdT [100, 97, 116, 97]] ++ (x2 ++ [nuT d.arity]), by simp, by simp⟩
theorem line_B (b : B) (h : finB b) (x : List ATok) (hx : oB (oE 60) b = .ok x) : LineO x := by
  refine ⟨?_, good_B (good_E 60) b h x hx⟩
  obtain ⟨n, a, al, y⟩ := b
  unfold oB at hx
  obtain ⟨x1, y1, h1, g1, rfl⟩ := seqO_ok hx
  obtain ⟨x2, y2, h2, g2, rfl⟩ := seqO_ok g1
  obtain ⟨x3, y3, h3, g3, rfl⟩ := seqO_ok g2
  obtain ⟨x4, y4, h4, h5, rfl⟩ := seqO_ok g3
  cases h2; cases h5
  exact ⟨x1 ++ ([sgT [61]] ++ (x3 ++ x4)), by simp, by simp⟩
theorem oLs_all {α : Type} {f : α → OT} {Q : List ATok → Prop} : ∀ (l : List α) (L : List (List ATok)), (∀ a ∈ l, ∀ x, f a = .ok x → Q x) → oLs f l = .ok L → (∀ x ∈ L, Q x) ∧ L.length = l.length
  | [], L, _, h => by cases h; exact ⟨fun x hx => (by cases hx), rfl⟩
  | a :: r, L, hq, h => by
    unfold oLs at h
    split at h
    · rename_i x hx
      split at h
      · rename_i y hy
        cases h
        obtain ⟨i1, i2⟩ := oLs_all r y (fun b hb => hq b (List.mem_cons_of_mem _ hb)) hy
        exact ⟨fun z hz => by
          rcases List.mem_cons.1 hz with q | q
          · rw [q]; exact hq a (List.mem_cons_self ..) x hx
          · exact i1 z q, by simp [i2]⟩
      · cases h
    · cases h
theorem lines_all {p : Pg} (hf : finP p) {L : List (List ATok)} (h : linesO p = .ok L) : (∀ x ∈ L, LineO x) ∧ L.length = p.datas.length + p.binds.length := by
  rw [linesO_seq] at h
  unfold seqL at h
  split at h
  · rename_i x hx
    split at h
    · rename_i y hy
      cases h
      obtain ⟨a1, a2⟩ := oLs_all p.datas x (fun d hd z hz => line_D d (hf.1 d hd) z hz) hx
      obtain ⟨b1, b2⟩ := oLs_all p.binds y (fun d hd z hz => line_B d (finBs_mem _ hf.2 d hd) z hz) hy
      exact ⟨fun z hz => by
        rcases List.mem_append.1 hz with q | q
        · exact a1 z q
        · exact b1 z q, by simp [a2, b2]⟩
    · cases h
  · cases h

/-! ## the text, scanned -/
def sepd : List (ATok × UInt8) → List UInt8
  | [] => []
  | p :: r => writ p.1 ++ p.2 :: sepd r
theorem sepd_app : ∀ p q, sepd (p ++ q) = sepd p ++ sepd q
  | [], q => rfl
  | x :: p, q => by simp only [List.cons_append, sepd, sepd_app p q, List.append_assoc]
theorem joinL_app (x y : List ATok) : joinL (x ++ y) = joinL x ++ joinL y := by simp [joinL]
theorem joinL_sepd : ∀ x : List ATok, joinL x = sepd (x.map fun t => (t, 32))
  | [] => rfl
  | t :: r => by
    have := joinL_sepd r
    rw [List.map_cons, sepd, ← this]
    simp [joinL]
theorem lineT_eq (y : List ATok) : lineT (y ++ [sgT [59]]) = joinL y ++ [59, 10] := by
  unfold lineT
  rw [joinL_app, show joinL [sgT [59]] = [59] ++ [32] from rfl, ← List.append_assoc, List.dropLast_concat]
  simp
theorem line_sepd (y : List ATok) : lineT (y ++ [sgT [59]]) = sepd ((y.map fun t => (t, 32)) ++ [(sgT [59], 10)]) := by
  rw [lineT_eq, sepd_app, joinL_sepd]
  rfl
theorem scan_sepd : ∀ (ps : List (ATok × UInt8)) (F a : Nat), (∀ p ∈ ps, bl p.2.toNat = true ∧ goodT p.1) → (sepd ps).length < F →
    ∃ ms, scanF F (sepd ps) a = .ok ms ∧ ms.map three = ps.map fun p => nameT p.1
  | [], F, a, _, _ => ⟨[], scanF_end _ _ _ (by simp [sepd, skipN]), rfl⟩
  | p :: r, F, a, h, hF => by
    obtain ⟨hb, ho, hn, _⟩ := h p (List.mem_cons_self ..)
    obtain ⟨w1, w2, w3⟩ := writ_read ho hn
    simp only [sepd, List.length_append, List.length_cons] at hF
    obtain ⟨G, rfl⟩ : ∃ G, F = G + 1 := ⟨F - 1, by omega⟩
    obtain ⟨ms, i1, i2⟩ := scan_sepd r G (a + (writ p.1).length + 1) (fun q hq => h q (List.mem_cons_of_mem _ hq)) (by omega)
    have hr : readT (writ p.1 ++ p.2 :: sepd r) = .ok ⟨(nameT p.1).kind, (nameT p.1).text, (nameT p.1).num, (writ p.1).length⟩ := by rw [readT_app hb _ w2]; exact w1
    have hs : skipN false (writ p.1 ++ p.2 :: sepd r) = 0 := by
      cases e : writ p.1 with
      | nil => exact absurd e w2
      | cons c x =>
        rw [e] at w1
        obtain ⟨q1, q2⟩ := readT_head w1
        rw [List.cons_append, skipN, if_neg (by rw [q1]; decide), if_neg]
        rintro ⟨q3, q4⟩
        cases x with
        | nil =>
          simp only [List.nil_append, List.head?_cons, Option.map_some, Option.some.injEq] at q4
          rw [q4] at hb
          exact absurd hb (by decide)
        | cons d y =>
          refine q2 ⟨q3, ?_⟩
          show d.toNat = 45
          simpa using q4
    refine ⟨⟨(nameT p.1).kind, (nameT p.1).text, (nameT p.1).num, a⟩ :: ms, ?_, ?_⟩
    · rw [sepd, scanF_ok G _ _ (by rw [hs, List.length_append, List.length_cons]; omega) (by rw [hs, List.drop_zero]; exact hr), hs, List.drop_zero]
      simp only [Nat.add_zero]
      rw [List.drop_left, show (p.2 :: sepd r : List UInt8) = [p.2] ++ sepd r from rfl, scan_gap (gap_blank hb gap_nil)]
      simp only [List.length_cons, List.length_nil, Nat.zero_add]
      rw [i1]
      rfl
    · simp only [List.map_cons, i2, three]
theorem text_sepd : ∀ (L : List (List ATok)), (∀ x ∈ L, LineO x) → ∃ ps, textL L = sepd ps ∧ ps.map (·.1) = L.flatten ∧ ∀ p ∈ ps, bl p.2.toNat = true ∧ goodT p.1
  | [], _ => ⟨[], rfl, rfl, fun p hp => by cases hp⟩
  | x :: L, h => by
    obtain ⟨ps, e1, e2, e3⟩ := text_sepd L (fun y hy => h y (List.mem_cons_of_mem _ hy))
    obtain ⟨⟨y, rfl, hy⟩, hg⟩ := h x (List.mem_cons_self ..)
    refine ⟨((y.map fun t => (t, (32 : UInt8))) ++ [(sgT [59], 10)]) ++ ps, ?_, ?_, fun p hp => ?_⟩
    · rw [sepd_app, ← line_sepd, ← e1]
      rfl
    · simp only [List.map_append, List.map_map, e2, List.flatten_cons, List.map_cons, List.map_nil]
      congr 1
      congr 1
      exact List.map_id y
    · rcases List.mem_append.1 hp with z | z
      · rcases List.mem_append.1 z with q | q
        · obtain ⟨t, ht, rfl⟩ := List.mem_map.1 q
          exact ⟨(by show bl (((32 : UInt8).toNat : Nat) : Int) = true; decide), hg t (List.mem_append_left _ ht)⟩
        · rw [List.mem_singleton] at q
          rw [q]
          exact ⟨by decide, good_sg (by simp)⟩
      · exact e3 p z
theorem print_ok {p : Pg} {s : List UInt8} (h : printR p = .ok s) : ∃ L, linesO p = .ok L ∧ s = textL L ∧ s.length ≤ 16384 := by
  unfold printR at h
  split at h
  · rename_i L hL
    split at h
    · cases h
    · cases h
      exact ⟨L, hL, rfl, by omega⟩
  · cases h
/-- What is printed is parsed as itself. -/
theorem parse_print {p : Pg} (hf : finP p) {s : List UInt8} (h : printR p = .ok s) : ∃ q, parseT s = .ok q ∧ sameP p q = true := by
  obtain ⟨L, hL, rfl, hlen⟩ := print_ok h
  obtain ⟨ps, e1, e2, e3⟩ := text_sepd L (lines_all hf hL).1
  have hS : ∃ ms, scanAll (textL L) = .ok ms ∧ ms.map three = ps.map fun p => nameT p.1 := by
    unfold scanAll
    rw [if_neg (by omega), e1]
    exact scan_sepd ps _ 0 e3 (Nat.lt_succ_self _)
  obtain ⟨ms, h1, h2⟩ := hS
  have hP : oP p = .ok L.flatten := by rw [oP_lines, hL]
  have hlike : Like ms L.flatten := by
    unfold Like
    rw [h2, ← e2, List.map_map]
    rfl
  obtain ⟨q, hq, hs⟩ := back_P hP hlike
  exact ⟨q, by unfold parseT; rw [h1]; simp only [hq], hs⟩
theorem print_same {p q : Pg} (h : sameP p q = true) : printR p = printR q := by unfold printR; rw [same_lines h]

/-! ## what the text looks like -/
/-- held byte by byte against the two ahead of it -/
def chk : UInt8 → UInt8 → List UInt8 → Prop
  | _, _, [] => True
  | a, b, c :: r => (c ≠ 40 ∧ c ≠ 41 ∧ c ≠ 9 ∧ c ≠ 13) ∧ ¬ (b = 45 ∧ c = 45) ∧ (c = 10 → b = 59 ∧ a = 32) ∧ chk b c r
/-- the last two bytes behind a text -/
def lasts : UInt8 → UInt8 → List UInt8 → UInt8 × UInt8
  | a, b, [] => (a, b)
  | _, b, c :: r => lasts b c r
theorem chk_app : ∀ (x : List UInt8) (a b : UInt8) (y : List UInt8), chk a b x → chk (lasts a b x).1 (lasts a b x).2 y → chk a b (x ++ y)
  | [], a, b, y, _, h => h
  | c :: x, a, b, y, hx, hy => by
    simp only [chk] at hx
    simp only [List.cons_append, chk]
    exact ⟨hx.1, hx.2.1, hx.2.2.1, chk_app x b c y hx.2.2.2 hy⟩
theorem lasts_app : ∀ (x : List UInt8) (a b : UInt8) (y : List UInt8), lasts a b (x ++ y) = lasts (lasts a b x).1 (lasts a b x).2 y
  | [], a, b, y => rfl
  | c :: x, a, b, y => by simp only [List.cons_append, lasts, lasts_app x b c y]
theorem chk_rest : ∀ (r : List UInt8) (a b : UInt8), (∀ x ∈ r, (x ≠ 40 ∧ x ≠ 41 ∧ x ≠ 9 ∧ x ≠ 13 ∧ x ≠ 10) ∧ x ≠ 45) → chk a b r
  | [], a, b, _ => trivial
  | c :: r, a, b, h => by
    obtain ⟨⟨h1, h2, h3, h4, h5⟩, h6⟩ := h c (List.mem_cons_self ..)
    exact ⟨⟨h1, h2, h3, h4⟩, fun q => h6 q.2, fun q => absurd q h5, chk_rest r b c (fun x hx => h x (List.mem_cons_of_mem _ hx))⟩
theorem chk_tok {u : List UInt8} (h : tokP u) {a b : UInt8} (hb : b ≠ 45) : chk a b u := by
  obtain ⟨c, r, rfl, h1, h2⟩ := h
  obtain ⟨q1, q2, q3, q4, q5⟩ := h1 c (List.mem_cons_self ..)
  exact ⟨⟨q1, q2, q3, q4⟩, fun q => hb q.1, fun q => absurd q q5, chk_rest r b c (fun x hx => ⟨h1 x (List.mem_cons_of_mem _ hx), h2 x hx⟩)⟩
theorem chk_join : ∀ (y : List ATok) (a b : UInt8), (∀ t ∈ y, goodT t) → b ≠ 45 → chk a b (joinL y) ∧ (y ≠ [] → (lasts a b (joinL y)).2 = 32)
  | [], a, b, _, _ => ⟨trivial, fun h => absurd rfl h⟩
  | t :: y, a, b, h, hb => by
    have e : joinL (t :: y) = (writ t ++ [32]) ++ joinL y := by simp [joinL]
    have ht := (h t (List.mem_cons_self ..)).2.2
    have l1 : (lasts a b (writ t ++ [32])).2 = 32 := by rw [lasts_app]; rfl
    obtain ⟨i1, i2⟩ := chk_join y (lasts a b (writ t ++ [32])).1 (lasts a b (writ t ++ [32])).2 (fun u hu => h u (List.mem_cons_of_mem _ hu)) (by rw [l1]; decide)
    rw [e]
    refine ⟨chk_app _ _ _ _ (chk_app _ _ _ _ (chk_tok ht hb) ?_) i1, fun _ => ?_⟩
    · exact ⟨by decide, fun q => absurd q.2 (by decide), fun q => absurd q (by decide), trivial⟩
    · rw [lasts_app]
      cases y with
      | nil => exact l1
      | cons u y => exact i2 (by simp)
theorem chk_line {x : List ATok} (h : LineO x) {a b : UInt8} (hb : b ≠ 45) : chk a b (lineT x) ∧ (lasts a b (lineT x)).2 = 10 := by
  obtain ⟨⟨y, rfl, hy⟩, hg⟩ := h
  rw [lineT_eq]
  obtain ⟨i1, i2⟩ := chk_join y a b (fun t ht => hg t (List.mem_append_left _ ht)) hb
  have l := i2 hy
  refine ⟨chk_app _ _ _ _ i1 ?_, by rw [lasts_app]; rfl⟩
  exact ⟨by decide, fun q => absurd q.2 (by decide), fun q => absurd q (by decide), by decide, fun q => absurd q.1 (by decide), fun _ => ⟨rfl, l⟩, trivial⟩
theorem chk_text : ∀ (L : List (List ATok)) (a b : UInt8), (∀ x ∈ L, LineO x) → b ≠ 45 → chk a b (textL L)
  | [], a, b, _, _ => trivial
  | x :: L, a, b, h, hb => by
    obtain ⟨i1, i2⟩ := chk_line (h x (List.mem_cons_self ..)) (a := a) hb
    have e : textL (x :: L) = lineT x ++ textL L := by simp [textL]
    rw [e]
    exact chk_app _ _ _ _ i1 (chk_text L _ _ (fun y hy => h y (List.mem_cons_of_mem _ hy)) (by rw [i2]; decide))
/-- how many lines -/
def tens : List UInt8 → Nat
  | [] => 0
  | c :: r => (if c = 10 then 1 else 0) + tens r
theorem tens_app : ∀ x y, tens (x ++ y) = tens x + tens y
  | [], y => by simp [tens]
  | c :: x, y => by simp only [List.cons_append, tens, tens_app x y]; omega
theorem tens_none : ∀ u : List UInt8, (∀ x ∈ u, x ≠ 10) → tens u = 0
  | [], _ => rfl
  | c :: r, h => by simp only [tens, if_neg (h c (List.mem_cons_self ..)), tens_none r (fun x hx => h x (List.mem_cons_of_mem _ hx))]
theorem tens_join : ∀ y : List ATok, (∀ t ∈ y, goodT t) → tens (joinL y) = 0
  | [], _ => rfl
  | t :: y, h => by
    have e : joinL (t :: y) = (writ t ++ [32]) ++ joinL y := by simp [joinL]
    obtain ⟨c, r, _, h1, _⟩ := (h t (List.mem_cons_self ..)).2.2
    rw [e, tens_app, tens_app, tens_none _ (fun x hx => (h1 x hx).2.2.2.2), tens_join y (fun u hu => h u (List.mem_cons_of_mem _ hu))]
    rfl
theorem tens_text : ∀ (L : List (List ATok)), (∀ x ∈ L, LineO x) → tens (textL L) = L.length
  | [], _ => rfl
  | x :: L, h => by
    obtain ⟨⟨y, rfl, hy⟩, hg⟩ := h x (List.mem_cons_self ..)
    have e : textL ((y ++ [sgT [59]]) :: L) = lineT (y ++ [sgT [59]]) ++ textL L := by simp [textL]
    rw [e, tens_app, lineT_eq, tens_app, tens_join y (fun t ht => hg t (List.mem_append_left _ ht)), tens_text L (fun y hy => h y (List.mem_cons_of_mem _ hy)), List.length_cons]
    rw [show tens [59, 10] = 1 from rfl]
    omega
theorem text_last : ∀ (L : List (List ATok)), L ≠ [] → ∃ r, textL L = r ++ [10]
  | [], h => absurd rfl h
  | [x], _ => ⟨(joinL x).dropLast, by simp [textL, lineT]⟩
  | x :: y :: L, _ => by
    obtain ⟨r, hr⟩ := text_last (y :: L) (by simp)
    have e : textL (x :: y :: L) = lineT x ++ textL (y :: L) := by simp [textL]
    exact ⟨lineT x ++ r, by rw [e, hr, List.append_assoc]⟩
theorem plain_print {p : Pg} (hf : finP p) {s : List UInt8} (h : printR p = .ok s) : chk 0 0 s ∧ tens s = p.datas.length + p.binds.length ∧ (s = [] ∨ ∃ r, s = r ++ [10]) := by
  obtain ⟨L, hL, rfl, hlen⟩ := print_ok h
  obtain ⟨h1, h2⟩ := lines_all hf hL
  refine ⟨chk_text L 0 0 h1 (by decide), by rw [tens_text L h1, h2], ?_⟩
  cases L with
  | nil => exact .inl rfl
  | cons x L => exact .inr (text_last _ (by simp))
end Go.Proofs.YtofgnpehlheeiaaGreatDoor
