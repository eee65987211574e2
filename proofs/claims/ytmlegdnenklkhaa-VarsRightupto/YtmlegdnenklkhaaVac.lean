/- Package vars' reader: atoms; an expression's contract; the first of its parts. -/
import Derived.Test.YtmlegdnenklkhaaVpl
namespace Go.Proofs.Ytmlegdnenklkhaa
open Go.RowKit
open Go.Maps (Keyed string_keyed)
set_option linter.unusedVariables false
set_option linter.unusedSimpArgs false

mutual
/-- names that are no longer than any text -/
def okE : E → Prop
  | .mk _ _ n _ ts bs ks al => n.length ≤ maxLen ∧ (∀ t ∈ ts, t.name.length ≤ maxLen) ∧ okBs bs ∧ okEs ks ∧ okAs al
def okB : B → Prop
  | .mk n _ l x => n.length ≤ maxLen ∧ (∀ s ∈ l, s.length ≤ maxLen) ∧ okE x
def okA : A → Prop
  | .mk k _ n m vs x => n.length ≤ maxLen ∧ (∀ s ∈ vs, s.length ≤ maxLen) ∧ okE x
def okEs : List E → Prop
  | [] => True
  | x :: r => okE x ∧ okEs r
def okBs : List B → Prop
  | [] => True
  | x :: r => okB x ∧ okBs r
def okAs : List A → Prop
  | [] => True
  | x :: r => okA x ∧ okAs r
end
theorem okBs_mem : ∀ {l : List B}, okBs l → ∀ x ∈ l, okB x
  | [], _, x, h => by cases h
  | y :: r, k, x, h => by
    simp only [okBs] at k
    rcases List.mem_cons.1 h with e | e
    · rw [e]; exact k.1
    · exact okBs_mem k.2 x e
theorem okAs_mem : ∀ {l : List A}, okAs l → ∀ x ∈ l, okA x
  | [], _, x, h => by cases h
  | y :: r, k, x, h => by
    simp only [okAs] at k
    rcases List.mem_cons.1 h with e | e
    · rw [e]; exact k.1
    · exact okAs_mem k.2 x e
theorem scD_plus (bd : Nm → Nat) (l : List Nm) : scD (plus bd l) = fun y => scD bd y || l.contains y := by
  funext y
  have e : plus bd l y = bd y + l.count y := rfl
  rw [Bool.eq_iff_iff, Bool.or_eq_true, decide_eq_true_eq, decide_eq_true_eq, e, List.contains_iff_mem, ← List.count_pos_iff]
  omega
section
variable {w w' : World} {b p q n : Nat} {bd : Nm → Nat} {fr : List Nm} {v : Value}
theorem fvT_snoc (sc : Nm → Bool) : ∀ (l : List Atm) (t : Atm) (fr : List Nm), fvT sc (l ++ [t]) fr = putN sc t.name (fvT sc l fr)
  | [], t, fr => rfl
  | x :: r, t, fr => by rw [List.cons_append, fvT, fvT, fvT_snoc sc r t]
set_option maxHeartbeats 2000000 in
theorem vatoms_any (h : Rs w b p q n bd fr v) (ts : List Atm) (vt : Value) (T : IsRow w (Qk b p q v.ownBlock w.heap.size) (atmC ts) ts.length vt) (hl : ∀ t ∈ ts, t.name.length ≤ maxLen) (hn : n + ts.length ≤ 1000000000) :
    Calls Try.prog 32 #[ptr b, vt] w (Out w b p q (n + ts.length) bd (fvT (scD bd) ts fr) v) := by
  have HT := Hid.mk T
  obtain ⟨ga, cap, rfl, hc, hx⟩ := T
  have HL := Hid.mk hl
  obtain ⟨l, hl⟩ : ∃ l, ts.length = l := ⟨_, rfl⟩
  have HN := Hid.mk hl
  rw [hl] at hc hn HT ⊢
  have H0 := Hid.mk h
  clear hl hx h
  go_enter Try.func32, Try.ntmps32
  go_wp2
  go_loopw [8] (fun c wr => ∃ j : Nat, c = .int .i64 j ∧ j ≤ l ∧ ∃ vr, Hid (Fe b p q v.ownBlock vr.ownBlock w wr) ∧ Hid (Rs wr b p q (n + j) bd (fvT (scD bd) (ts.take j) fr) vr)) (fun c _ => l - (intOf c).toNat)
  case atStart => exact ⟨0, rfl, Nat.zero_le _, v, ⟨Fe.refl _ _ _ _ _⟩, ⟨by rw [List.take_zero]; exact H0.out⟩⟩
  case round =>
    obtain ⟨j, rfl, hj, vr, FW, RW⟩ := hrel
    by_cases hlt : j < l
    · have kl : j < ts.length := by rw [HN.out]; exact hlt
      obtain ⟨ga', cap', e, _, hx⟩ := HT.out.keeps FW.out.keeps
      simp only [Value.slice.injEq] at e
      obtain ⟨rfl, _, rfl⟩ := e
      obtain ⟨g, off, rfl, hg, hx⟩ := hx (by omega)
      have c0 := hx _ _ (atmC_get ts j kl).1
      have c1 := hx _ _ (atmC_get ts j kl).2
      rw [← Nat.add_assoc] at c1
      have hs := HL.out _ (List.getElem_mem kl)
      have hlt' : (j : Int) < l := by omega
      have HE : Hid (fvT (scD bd) (ts.take (j + 1)) fr = putN (scD bd) (ts[j]'kl).name (fvT (scD bd) (ts.take j) fr)) := ⟨by rw [← List.take_append_getElem kl, fvT_snoc]⟩
      generalize (ts[j]'kl).num = tn at c1
      generalize (ts[j]'kl).name = nm at *
      have RW1 := RW.out.alloc (.cells #[.string (str nm), .int .i64 tn] 56)
      have FW1 := Hid.mk (FW.out.alloc (.cells #[.string (str nm), .int .i64 tn] 56))
      have d0 : (wr.alloc (.cells #[.string (str nm), .int .i64 tn] 56)).cell? ⟨wr.heap.size, 0, none⟩ = some (.string (str nm)) := Joins.cell_of_block (heap_alloc_new wr _) 0
      have C := vname_any RW1 nm hs (by omega)
      clear hx RW1 RW FW H0 HT
      go_wp2_with (go_at_call 31; refine C.mono ?_; rintro e w8 ⟨v8, rfl, F8, R8⟩; have HF := Hid.mk (FW1.out.trans F8); have HR := Hid.mk R8; clear F8 R8)
      exact ⟨⟨j + 1, by go_num, by omega, v8, HF, ⟨by rw [HE.out, ← Nat.add_assoc]; exact HR.out⟩⟩, by simp [intOf]; omega⟩
    · obtain rfl : j = l := by omega
      have HR : Hid (Rs wr b p q (n + j) bd (fvT (scD bd) ts fr) vr) := ⟨by have := RW.out; rwa [List.take_of_length_le (by rw [HN.out]; omega)] at this⟩
      clear RW HT H0
      go_wp2
      go_end0
      exact ⟨vr, rfl, FW.out, HR.out⟩
/-- what an expression is asked of the reader -/
def RE (x : E) : Prop := ∀ (w : World) (b p q n : Nat) (bd : Nm → Nat) (fr : List Nm) (v : Value) (d : List Value), Rs w b p q n bd fr v → isE w (Qk b p q v.ownBlock w.heap.size) x d → okE x → n + coE x ≤ 1000000000 →
  Calls Try.prog 26 #[ptr b, .agg d.toArray] w (Out w b p q (n + coE x) bd (fvE (scD bd) x fr) v)
set_option maxHeartbeats 2000000 in
theorem vfirst_any (ks : List E) (HK : ∀ x ∈ ks, RE x) (h : Rs w b p q n bd fr v) (vk : Value) (xk : List Value) (R : IsRow w (Qk b p q v.ownBlock w.heap.size) xk ks.length vk) (I : isEs w (Qk b p q v.ownBlock w.heap.size) ks xk) (ok : okEs ks) (hn : n + coEs ks ≤ 1000000000) :
    Calls Try.prog 34 #[ptr b, vk] w (Out w b p q (n + coEs ks) bd (fvK (scD bd) ks fr) v) := by
  obtain ⟨ga, cap, rfl, hc, hx⟩ := R
  cases ks with
  | nil =>
    have H := Hid.mk h
    simp only [List.length_nil] at hc ⊢
    clear h hx I HK
    go_enter Try.func34, Try.ntmps34
    go_wp2
    go_end0
    exact ⟨v, rfl, Fe.refl _ _ _ _ _, by rw [fvK]; exact H.out.mono (by omega)⟩
  | cons x r =>
    simp only [okEs] at ok
    simp only [coEs] at hn ⊢
    simp only [isEs] at I
    obtain ⟨d1, d2, rfl, I1, _⟩ := I
    obtain ⟨g, off, rfl, hg, hx⟩ := hx (by simp)
    have C := HK x (List.mem_cons_self ..) w b p q n bd fr v d1 h I1 ok.1 (by omega)
    have e8 := isE_length x d1 I1
    obtain ⟨xk, xa, xm, xs, g4, g5, g6, g7, n4, n5, n6, n7, c4, c5, c6, c7, rfl⟩ := isE_eight I1
    have bl : ∀ (j : Nat) (u : Value), [Value.int .i64 xk, .int .i64 xa, .string xs, .int .i64 xm, .slice g4 n4 c4, .slice g5 n5 c5, .slice g6 n6 c6, .slice g7 n7 c7][j]? = some u → w.cell? ⟨g, off + j, none⟩ = some u := fun j u hj => hx j u (by rw [List.getElem?_append_left (List.getElem?_eq_some_iff.1 hj).1]; exact hj)
    have y0 := bl 0 _ rfl
    have y1 := bl 1 _ rfl
    have y2 := bl 2 _ rfl
    have y3 := bl 3 _ rfl
    have y4 := bl 4 _ rfl
    have y5 := bl 5 _ rfl
    have y6 := bl 6 _ rfl
    have y7 := bl 7 _ rfl
    rw [Nat.add_zero] at y0
    rw [fvK]
    obtain ⟨l, hl⟩ : ∃ l, (x :: r).length = l := ⟨_, rfl⟩
    have pl : (0 : Int) < l := by rw [← hl, List.length_cons]; omega
    rw [hl] at hc ⊢
    clear h I1 HK ok hx bl e8 hl hg
    go_enter Try.func34, Try.ntmps34
    go_wp2_with (go_at_call 26; refine C.mono ?_; intro e w8 H8; obtain ⟨v8, rfl, F8, R8⟩ := H8; have HF := Hid.mk F8; have HR := Hid.mk R8; clear F8 R8)
    go_end0
    exact ⟨v8, rfl, HF.out, HR.out.mono (by omega)⟩
end
end Go.Proofs.Ytmlegdnenklkhaa
