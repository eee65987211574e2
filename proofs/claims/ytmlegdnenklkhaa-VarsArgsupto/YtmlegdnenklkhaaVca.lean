/- A fault's error is never 0; a program's weight bounds what its reading costs. -/
import Derived.Test.YtmlegdnenklkhaaVbf
import Derived.Test.YtmlegdnenklkhaaScv
import Derived.Test.YtmlegdnenklkhaaWt
import Derived.Test.YtmlegdnenklkhaaPv
namespace Go.Proofs.Ytmlegdnenklkhaa
open Go.RowKit
set_option linter.unusedVariables false
set_option linter.unusedSimpArgs false

def nz (f : Flt) : Prop := ∀ a c, f = some (a, c) → c ≠ 0
theorem nz_none : nz none := fun a c h => by cases h
theorem nz_some {a c : Int} (h : c ≠ 0) : nz (some (a, c)) := fun a' c' e => by cases e; exact h
theorem nz_or {f g : Flt} (hf : nz f) (hg : nz g) : nz (orF f g) := by
  cases f with
  | none => exact hg
  | some x => exact hf
theorem nz_ite {c : Prop} [Decidable c] {f g : Flt} (hf : nz f) (hg : nz g) : nz (if c then f else g) := by
  split
  · exact hf
  · exact hg
theorem nz_atm (a : Int) (sc : Nm → Bool) : ∀ l, nz (atmF a sc l)
  | [] => nz_none
  | t :: r => by rw [atmF]; exact nz_ite (nz_some (by decide)) (nz_atm a sc r)
theorem nz_con (a : Int) (n : Option Int) (len : Nat) : nz (conF a n len) := by
  unfold conF
  cases n with
  | none => exact nz_some (by decide)
  | some m => exact nz_ite nz_none (nz_some (by decide))
theorem nz_nam : ∀ (l : List B) (ahead : List Nm), nz (namF ahead l)
  | [], _ => nz_none
  | .mk n a _ _ :: r, ahead => by rw [namF]; exact nz_ite (nz_some (by decide)) (nz_ite (nz_some (by decide)) (nz_nam r _))
theorem nz_arg (a : Int) (l : List Nm) : nz (argF a l) := by unfold argF; exact nz_ite (nz_some (by decide)) (nz_ite (nz_some (by decide)) (nz_ite (nz_some (by decide)) nz_none))
theorem nz_alt (ds : List D) (ahead : List Hd3) (k a : Int) (n : Nm) (m : Int) (vs : List Nm) : nz (altF ds ahead k a n m vs) := by
  unfold altF
  refine nz_ite (nz_some (by decide)) (nz_ite ?_ (nz_ite (nz_ite (nz_some (by decide)) nz_none) (nz_ite (nz_ite (nz_some (by decide)) nz_none) (nz_some (by decide)))))
  split
  · exact nz_some (by decide)
  · exact nz_ite (nz_some (by decide)) (nz_ite (nz_some (by decide)) (nz_ite (nz_some (by decide)) (nz_ite (nz_some (by decide)) nz_none)))
section
variable (ds : List D) (pr : Nm → Nat) (ar : Nat → Int)
mutual
theorem nz_E : ∀ (x : E) (sc : Nm → Bool), nz (chE ds pr ar sc x)
  | .mk k a n m ts bs ks al, sc => by
    rw [chE]
    exact nz_ite (nz_ite (nz_some (by decide)) (nz_ite (nz_some (by decide)) (nz_atm _ _ _))) (nz_ite (nz_or (nz_con _ _ _) (nz_atm _ _ _)) (nz_ite (nz_ite (nz_some (by decide)) (nz_ite (nz_some (by decide)) (nz_atm _ _ _))) (nz_ite nz_none
      (nz_ite (nz_ite (nz_some (by decide)) (nz_or (nz_nam _ _) (nz_or (nz_Bs bs _) (nz_K ks _)))) (nz_ite (nz_ite (nz_some (by decide)) (nz_or (nz_K ks _) (nz_As al _ _))) (nz_some (by decide)))))))
theorem nz_B : ∀ (x : B) (sc : Nm → Bool), nz (chB ds pr ar sc x)
  | .mk _ a l x, sc => by rw [chB]; exact nz_or (nz_arg _ _) (nz_E x _)
theorem nz_A : ∀ (x : A) (sc : Nm → Bool) (ahead : List Hd3), nz (chA ds pr ar sc ahead x)
  | .mk k a n m vs x, sc, ahead => by rw [chA]; exact nz_or (nz_alt _ _ _ _ _ _ _) (nz_E x _)
theorem nz_K : ∀ (x : List E) (sc : Nm → Bool), nz (chK ds pr ar sc x)
  | [], _ => by rw [chK]; exact nz_none
  | x :: _, sc => by rw [chK]; exact nz_E x _
theorem nz_Bs : ∀ (x : List B) (sc : Nm → Bool), nz (chBs ds pr ar sc x)
  | [], _ => by rw [chBs]; exact nz_none
  | x :: r, sc => by rw [chBs]; exact nz_or (nz_B x _) (nz_Bs r _)
theorem nz_As : ∀ (x : List A) (sc : Nm → Bool) (ahead : List Hd3), nz (chAs ds pr ar sc ahead x)
  | [], _, _ => by rw [chAs]; exact nz_none
  | .mk k a n m vs x :: r, sc, ahead => by rw [chAs]; exact nz_or (nz_A (.mk k a n m vs x) _ _) (nz_As r _ _)
end
theorem nz_dat : ∀ (l : List D) (ahead : List Nm), nz (datF ahead l)
  | [], _ => nz_none
  | d :: r, ahead => by rw [datF]; exact nz_ite (nz_some (by decide)) (nz_ite (nz_some (by decide)) (nz_dat r _))
end
theorem nz_check (pr : Nm → Nat) (ar : Nat → Int) (p : Pg) : nz (checkP pr ar p) := by
  unfold checkP
  exact nz_or (nz_dat _ _) (nz_or (nz_nam _ _) (nz_or (nz_Bs _ _ _ _ _) (nz_ite nz_none (nz_some (by decide)))))

theorem wtN_mem : ∀ {l : List Nm} {s : Nm}, s ∈ l → s.length ≤ wtN l
  | [], s, h => by cases h
  | y :: r, s, h => by
    rw [wtN]
    rcases List.mem_cons.1 h with e | e
    · rw [e]; omega
    · have := wtN_mem e; omega
theorem wtT_mem : ∀ {l : List Atm} {s : Atm}, s ∈ l → s.name.length ≤ wtT l
  | [], s, h => by cases h
  | y :: r, s, h => by
    rw [wtT]
    rcases List.mem_cons.1 h with e | e
    · rw [e]; omega
    · have := wtT_mem e; omega
theorem wtN_len : ∀ l : List Nm, l.length ≤ wtN l
  | [] => Nat.le_refl _
  | s :: r => by have := wtN_len r; simp only [wtN, List.length_cons]; omega
theorem wtT_len : ∀ l : List Atm, l.length ≤ wtT l
  | [] => Nat.le_refl _
  | s :: r => by have := wtT_len r; simp only [wtT, List.length_cons]; omega
mutual
theorem ok_E : ∀ x : E, wtE x ≤ 1048576 → okE x
  | .mk k a n m ts bs ks al, h => by
    simp only [wtE] at h
    simp only [okE]
    have ml : (1048576 : Nat) ≤ maxLen := by unfold maxLen; omega
    exact ⟨by omega, fun t ht => by have := wtT_mem ht; omega, ok_Bs bs (by omega), ok_Es ks (by omega), ok_As al (by omega)⟩
theorem ok_B : ∀ x : B, wtB x ≤ 1048576 → okB x
  | .mk n a l x, h => by
    simp only [wtB] at h
    simp only [okB]
    have ml : (1048576 : Nat) ≤ maxLen := by unfold maxLen; omega
    exact ⟨by omega, fun s hs => by have := wtN_mem hs; omega, ok_E x (by omega)⟩
theorem ok_A : ∀ x : A, wtA x ≤ 1048576 → okA x
  | .mk k a n m vs x, h => by
    simp only [wtA] at h
    simp only [okA]
    have ml : (1048576 : Nat) ≤ maxLen := by unfold maxLen; omega
    exact ⟨by omega, fun s hs => by have := wtN_mem hs; omega, ok_E x (by omega)⟩
theorem ok_Es : ∀ l : List E, wtEs l ≤ 1048576 → okEs l
  | [], _ => by simp only [okEs]
  | x :: r, h => by
    simp only [wtEs] at h
    simp only [okEs]
    exact ⟨ok_E x (by omega), ok_Es r (by omega)⟩
theorem ok_Bs : ∀ l : List B, wtBs l ≤ 1048576 → okBs l
  | [], _ => by simp only [okBs]
  | x :: r, h => by
    simp only [wtBs] at h
    simp only [okBs]
    exact ⟨ok_B x (by omega), ok_Bs r (by omega)⟩
theorem ok_As : ∀ l : List A, wtAs l ≤ 1048576 → okAs l
  | [], _ => by simp only [okAs]
  | x :: r, h => by
    simp only [wtAs] at h
    simp only [okAs]
    exact ⟨ok_A x (by omega), ok_As r (by omega)⟩
end
mutual
theorem co_wE : ∀ x : E, coE x ≤ 2 * wtE x
  | .mk k a n m ts bs ks al => by
    have h1 := co_wBs bs
    have h2 := co_wEs ks
    have h3 := co_wAs al
    have h4 := wtT_len ts
    simp only [coE, wtE]
    omega
theorem co_wB : ∀ x : B, coB x + 2 ≤ 2 * wtB x
  | .mk n a l x => by
    have h1 := co_wE x
    have h2 := wtN_len l
    simp only [coB, wtB]
    omega
theorem co_wA : ∀ x : A, coA x ≤ 2 * wtA x
  | .mk k a n m vs x => by
    have h1 := co_wE x
    have h2 := wtN_len vs
    simp only [coA, wtA]
    omega
theorem co_wEs : ∀ l : List E, coEs l ≤ 2 * wtEs l
  | [] => by simp only [coEs, wtEs]; omega
  | x :: r => by
    have h1 := co_wE x
    have h2 := co_wEs r
    simp only [coEs, wtEs]
    omega
theorem co_wBs : ∀ l : List B, 2 * l.length + coBs l ≤ 2 * wtBs l
  | [] => by simp only [coBs, wtBs, List.length_nil]; omega
  | x :: r => by
    have h1 := co_wB x
    have h2 := co_wBs r
    simp only [coBs, wtBs, List.length_cons]
    omega
theorem co_wAs : ∀ l : List A, coAs l ≤ 2 * wtAs l
  | [] => by simp only [coAs, wtAs]; omega
  | x :: r => by
    have h1 := co_wA x
    have h2 := co_wAs r
    simp only [coAs, wtAs]
    omega
end
mutual
theorem nm_wE : ∀ x : E, nmE x ≤ wtE x
  | .mk k a n m ts bs ks al => by
    have h1 := nm_wBs bs
    have h2 := nm_wEs ks
    have h3 := nm_wAs al
    simp only [nmE, wtE]
    omega
theorem nm_wB : ∀ x : B, nmB x + 5 ≤ wtB x
  | .mk n a l x => by
    have h1 := nm_wE x
    have h2 := wtN_len l
    simp only [nmB, wtB]
    omega
theorem nm_wA : ∀ x : A, nmA x ≤ wtA x
  | .mk k a n m vs x => by
    have h1 := nm_wE x
    have h2 := wtN_len vs
    simp only [nmA, wtA]
    omega
theorem nm_wEs : ∀ l : List E, nmEs l ≤ wtEs l
  | [] => by simp only [nmEs, wtEs]; omega
  | x :: r => by
    have h1 := nm_wE x
    have h2 := nm_wEs r
    simp only [nmEs, wtEs]
    omega
theorem nm_wBs : ∀ l : List B, l.length + nmBs l ≤ wtBs l
  | [] => by simp only [nmBs, wtBs, List.length_nil]; omega
  | x :: r => by
    have h1 := nm_wB x
    have h2 := nm_wBs r
    simp only [nmBs, wtBs, List.length_cons]
    omega
theorem nm_wAs : ∀ l : List A, nmAs l ≤ wtAs l
  | [] => by simp only [nmAs, wtAs]; omega
  | x :: r => by
    have h1 := nm_wA x
    have h2 := nm_wAs r
    simp only [nmAs, wtAs]
    omega
end
theorem wtBs_mem : ∀ {l : List B} {x : B}, x ∈ l → wtB x ≤ wtBs l
  | [], x, h => by cases h
  | y :: r, x, h => by
    rw [wtBs]
    rcases List.mem_cons.1 h with e | e
    · rw [e]; omega
    · have := wtBs_mem e; omega
theorem check_V {w : World} {p : Pg} {vd vb : Value} (I : isPV w (fun g => g < w.heap.size) p (.agg #[vd, vb])) (h : p.binds.length + nmBs p.binds ≤ 1000000000) :
    Calls Try.prog 13 #[.agg #[vd, vb]] w fun e w' => e = .returned (.tuple #[.int .i64 (atF (checkP prN tA p)), .int .i64 (erF (checkP prN tA p))]) ∧ Below w.heap.size w w' := by
  obtain ⟨vd', vb', xb, e, ID, IB, IBS⟩ := I
  simp only [Value.agg.injEq, Array.mk.injEq, List.cons.injEq, and_true] at e
  obtain ⟨rfl, rfl⟩ := e
  have ID0 := ID
  have IB0 := IB
  obtain ⟨gd, cd, rfl, _, _⟩ := ID
  obtain ⟨gb, cb, rfl, _, _⟩ := IB
  exact check_any p.datas p.binds gd gb _ _ cd cb xb w ID0 IB0 IBS rfl rfl h
theorem pv_lift {w w' : World} {p : Pg} {v : Value} (h : isPV w (fun g => g < w.heap.size) p v) (k : Below w.heap.size w w') : isPV w' (fun g => g < w'.heap.size) p v := isPV_keeps (keeps_below k (fun g hg => Nat.lt_of_lt_of_le hg k.size)) h
end Go.Proofs.Ytmlegdnenklkhaa
