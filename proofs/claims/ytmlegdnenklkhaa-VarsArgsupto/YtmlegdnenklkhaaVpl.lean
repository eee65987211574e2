/- The free names of an expression, as a plain function; what is read of a right program is bound in it. -/
import Derived.Test.YtmlegdnenklkhaaVab
namespace Go.Proofs.Ytmlegdnenklkhaa
set_option linter.unusedVariables false
set_option linter.unusedSimpArgs false

def fvT (sc : Nm → Bool) : List Atm → List Nm → List Nm
  | [], fr => fr
  | t :: r, fr => fvT sc r (putN sc t.name fr)
mutual
def fvE (sc : Nm → Bool) : E → List Nm → List Nm
  | .mk k a n m ts bs ks al, fr =>
    if k = 1 then fvT sc ts (putN sc n fr)
    else if k = 2 then fvT sc ts fr
    else if k = 3 then fvT sc ts fr
    else if k = 5 then fvK (fun x => sc x || (bs.map nameB').contains x) ks (fvBs (fun x => sc x || (bs.map nameB').contains x) bs fr)
    else if k = 6 then fvAs sc al (fvK sc ks fr)
    else fr
def fvB (sc : Nm → Bool) : B → List Nm → List Nm
  | .mk _ _ l x, fr => fvE (fun y => sc y || l.contains y) x fr
def fvA (sc : Nm → Bool) : A → List Nm → List Nm
  | .mk k a n m vs x, fr => if k = 1 then fvE (fun y => sc y || vs.contains y) x fr else if k = 2 then fvE sc x fr else if k = 3 then fvE (fun y => sc y || [n].contains y) x fr else fr
def fvK (sc : Nm → Bool) : List E → List Nm → List Nm
  | [], fr => fr
  | x :: _, fr => fvE sc x fr
def fvBs (sc : Nm → Bool) : List B → List Nm → List Nm
  | [], fr => fr
  | x :: r, fr => fvBs sc r (fvB sc x fr)
def fvAs (sc : Nm → Bool) : List A → List Nm → List Nm
  | [], fr => fr
  | x :: r, fr => fvAs sc r (fvA sc x fr)
end
mutual
/-- how often the reader's maps are written -/
def coE : E → Nat
  | .mk k a n m ts bs ks al => 1 + ts.length + 2 * bs.length + coBs bs + coEs ks + coAs al
def coB : B → Nat
  | .mk _ _ l x => 2 * l.length + coE x
def coA : A → Nat
  | .mk k a n m vs x => 2 + 2 * vs.length + coE x
def coEs : List E → Nat
  | [] => 0
  | x :: r => coE x + coEs r
def coBs : List B → Nat
  | [] => 0
  | x :: r => coB x + coBs r
def coAs : List A → Nat
  | [] => 0
  | x :: r => coA x + coAs r
end
/-- the free names of a form -/
def freeF (l : List Nm) (x : E) : List Nm := (fvE (fun _ => false) x []).filter (fun s => !l.contains s)

/- each once -/
theorem putN_nodup (sc : Nm → Bool) (s : Nm) {fr : List Nm} (h : fr.Nodup) : (putN sc s fr).Nodup := by
  unfold putN
  split
  · exact h
  · split
    · exact h
    · rename_i q
      rw [List.nodup_append]
      refine ⟨h, by simp, fun a ha b hb => ?_⟩
      rw [List.mem_singleton] at hb
      subst hb
      intro e
      exact q (e ▸ ha)
theorem fvT_nodup (sc : Nm → Bool) : ∀ (l : List Atm) (fr : List Nm), fr.Nodup → (fvT sc l fr).Nodup
  | [], fr, h => h
  | t :: r, fr, h => by rw [fvT]; exact fvT_nodup sc r _ (putN_nodup sc _ h)
mutual
theorem fvE_nodup : ∀ (x : E) (sc : Nm → Bool) (fr : List Nm), fr.Nodup → (fvE sc x fr).Nodup
  | .mk k a n m ts bs ks al, sc, fr, h => by
    rw [fvE]
    split
    · exact fvT_nodup _ _ _ (putN_nodup _ _ h)
    · split
      · exact fvT_nodup _ _ _ h
      · split
        · exact fvT_nodup _ _ _ h
        · split
          · exact fvK_nodup ks _ _ (fvBs_nodup bs _ _ h)
          · split
            · exact fvAs_nodup al _ _ (fvK_nodup ks _ _ h)
            · exact h
theorem fvB_nodup : ∀ (x : B) (sc : Nm → Bool) (fr : List Nm), fr.Nodup → (fvB sc x fr).Nodup
  | .mk _ _ l x, sc, fr, h => by rw [fvB]; exact fvE_nodup x _ _ h
theorem fvA_nodup : ∀ (x : A) (sc : Nm → Bool) (fr : List Nm), fr.Nodup → (fvA sc x fr).Nodup
  | .mk k a n m vs x, sc, fr, h => by
    rw [fvA]
    split
    · exact fvE_nodup x _ _ h
    · split
      · exact fvE_nodup x _ _ h
      · split
        · exact fvE_nodup x _ _ h
        · exact h
theorem fvK_nodup : ∀ (x : List E) (sc : Nm → Bool) (fr : List Nm), fr.Nodup → (fvK sc x fr).Nodup
  | [], sc, fr, h => by rw [fvK]; exact h
  | x :: _, sc, fr, h => by rw [fvK]; exact fvE_nodup x _ _ h
theorem fvBs_nodup : ∀ (x : List B) (sc : Nm → Bool) (fr : List Nm), fr.Nodup → (fvBs sc x fr).Nodup
  | [], sc, fr, h => by rw [fvBs]; exact h
  | x :: r, sc, fr, h => by rw [fvBs]; exact fvBs_nodup r _ _ (fvB_nodup x _ _ h)
theorem fvAs_nodup : ∀ (x : List A) (sc : Nm → Bool) (fr : List Nm), fr.Nodup → (fvAs sc x fr).Nodup
  | [], sc, fr, h => by rw [fvAs]; exact h
  | x :: r, sc, fr, h => by rw [fvAs]; exact fvAs_nodup r _ _ (fvA_nodup x _ _ h)
end

/- what is read where nothing is wrong: what was there, or what is bound outside -/
section
variable {top : Nm → Bool}
theorem putN_in {sc sc0 : Nm → Bool} (h : ∀ y, sc y = true → top y = true ∨ sc0 y = true) {s : Nm} (hs : s ≠ [] → sc s = true) {fr : List Nm} : ∀ y ∈ putN sc0 s fr, y ∈ fr ∨ top y = true := by
  intro y hy
  unfold putN at hy
  split at hy
  · exact .inl hy
  · rename_i q
    split at hy
    · exact .inl hy
    · rcases List.mem_append.1 hy with e | e
      · exact .inl e
      · rw [List.mem_singleton] at e
        subst e
        rcases h y (hs (fun z => q (.inl z))) with e | e
        · exact .inr e
        · exact absurd (.inr e) q
theorem fvT_in {sc sc0 : Nm → Bool} (h : ∀ y, sc y = true → top y = true ∨ sc0 y = true) {a : Int} : ∀ (l : List Atm) (fr : List Nm), atmF a sc l = none → ∀ y ∈ fvT sc0 l fr, y ∈ fr ∨ top y = true
  | [], fr, _, y, hy => .inl hy
  | t :: r, fr, e, y, hy => by
    rw [atmF] at e
    split at e
    · cases e
    · rename_i q
      rw [fvT] at hy
      rcases fvT_in h r _ e y hy with z | z
      · refine putN_in h (fun ne => ?_) y z
        cases w : sc t.name
        · exact absurd ⟨ne, w⟩ q
        · rfl
      · exact .inr z
theorem more_in {sc sc0 : Nm → Bool} (h : ∀ y, sc y = true → top y = true ∨ sc0 y = true) (l : List Nm) : ∀ y, (sc y || l.contains y) = true → top y = true ∨ (sc0 y || l.contains y) = true := by
  intro y hy
  rw [Bool.or_eq_true] at hy
  rcases hy with e | e
  · rcases h y e with z | z
    · exact .inl z
    · exact .inr (by rw [z]; rfl)
  · exact .inr (by rw [e]; simp)
variable (ds : List D) (pr : Nm → Nat) (ar : Nat → Int)
mutual
theorem fvE_in : ∀ (x : E) (sc sc0 : Nm → Bool) (fr : List Nm), (∀ y, sc y = true → top y = true ∨ sc0 y = true) → chE ds pr ar sc x = none → ∀ y ∈ fvE sc0 x fr, y ∈ fr ∨ top y = true
  | .mk k a n m ts bs ks al, sc, sc0, fr, h, e, y, hy => by
    rw [chE] at e
    rw [fvE] at hy
    by_cases k1 : k = 1
    · rw [if_pos k1] at e hy
      cases q : sc n
      · rw [if_pos q] at e; cases e
      · rw [if_neg (by rw [q]; simp)] at e
        split at e
        · cases e
        · rcases fvT_in h _ _ e y hy with z | z
          · exact putN_in h (fun _ => q) y z
          · exact .inr z
    · rw [if_neg k1] at e hy
      by_cases k2 : k = 2
      · rw [if_pos k2] at e hy
        exact fvT_in h _ _ (orF_none.1 e).2 y hy
      · rw [if_neg k2] at e hy
        by_cases k3 : k = 3
        · rw [if_pos k3] at e hy
          split at e
          · cases e
          · split at e
            · cases e
            · exact fvT_in h _ _ e y hy
        · rw [if_neg k3] at e hy
          by_cases k5 : k = 5
          · rw [if_neg (by omega), if_pos k5] at e
            rw [if_pos k5] at hy
            split at e
            · cases e
            · obtain ⟨_, e⟩ := orF_none.1 e
              obtain ⟨e1, e2⟩ := orF_none.1 e
              rcases fvK_in ks _ _ _ (more_in h _) e2 y hy with z | z
              · exact fvBs_in bs _ _ _ (more_in h _) e1 y z
              · exact .inr z
          · rw [if_neg k5] at hy
            by_cases k6 : k = 6
            · rw [if_neg (by omega), if_neg k5, if_pos k6] at e
              rw [if_pos k6] at hy
              split at e
              · cases e
              · obtain ⟨e1, e2⟩ := orF_none.1 e
                rcases fvAs_in al _ _ _ _ h e2 y hy with z | z
                · exact fvK_in ks _ _ _ h e1 y z
                · exact .inr z
            · rw [if_neg k6] at hy
              exact .inl hy
theorem fvB_in : ∀ (x : B) (sc sc0 : Nm → Bool) (fr : List Nm), (∀ y, sc y = true → top y = true ∨ sc0 y = true) → chB ds pr ar sc x = none → ∀ y ∈ fvB sc0 x fr, y ∈ fr ∨ top y = true
  | .mk _ a l x, sc, sc0, fr, h, e, y, hy => by
    rw [chB] at e
    rw [fvB] at hy
    exact fvE_in x _ _ _ (more_in h _) (orF_none.1 e).2 y hy
theorem fvA_in : ∀ (x : A) (sc sc0 : Nm → Bool) (fr : List Nm) (ahead : List Hd3), (∀ y, sc y = true → top y = true ∨ sc0 y = true) → chA ds pr ar sc ahead x = none → ∀ y ∈ fvA sc0 x fr, y ∈ fr ∨ top y = true
  | .mk k a n m vs x, sc, sc0, fr, ahead, h, e, y, hy => by
    rw [chA] at e
    have e := (orF_none.1 e).2
    rw [altS] at e
    rw [fvA] at hy
    by_cases k1 : k = 1
    · rw [if_pos k1] at e hy
      exact fvE_in x _ _ _ (more_in h _) e y hy
    · rw [if_neg k1] at e hy
      by_cases k3 : k = 3
      · rw [if_pos k3] at e
        rw [if_neg (by omega), if_pos k3] at hy
        refine fvE_in x _ _ _ (fun z hz => ?_) e y hy
        have := more_in h [n] z (by
          rw [Bool.or_eq_true] at hz ⊢
          rcases hz with q | q
          · exact .inl q
          · right
            rw [beq_iff_eq] at q
            simp [q])
        exact this
      · rw [if_neg k3] at e hy
        split at hy
        · exact fvE_in x _ _ _ h e y hy
        · exact .inl hy
theorem fvK_in : ∀ (x : List E) (sc sc0 : Nm → Bool) (fr : List Nm), (∀ y, sc y = true → top y = true ∨ sc0 y = true) → chK ds pr ar sc x = none → ∀ y ∈ fvK sc0 x fr, y ∈ fr ∨ top y = true
  | [], sc, sc0, fr, h, e, y, hy => .inl (by rwa [fvK] at hy)
  | x :: _, sc, sc0, fr, h, e, y, hy => by
    rw [chK] at e
    rw [fvK] at hy
    exact fvE_in x _ _ _ h e y hy
theorem fvBs_in : ∀ (x : List B) (sc sc0 : Nm → Bool) (fr : List Nm), (∀ y, sc y = true → top y = true ∨ sc0 y = true) → chBs ds pr ar sc x = none → ∀ y ∈ fvBs sc0 x fr, y ∈ fr ∨ top y = true
  | [], sc, sc0, fr, h, e, y, hy => .inl (by rwa [fvBs] at hy)
  | x :: r, sc, sc0, fr, h, e, y, hy => by
    rw [chBs] at e
    obtain ⟨e1, e2⟩ := orF_none.1 e
    rw [fvBs] at hy
    rcases fvBs_in r _ _ _ h e2 y hy with z | z
    · exact fvB_in x _ _ _ h e1 y z
    · exact .inr z
theorem fvAs_in : ∀ (x : List A) (sc sc0 : Nm → Bool) (fr : List Nm) (ahead : List Hd3), (∀ y, sc y = true → top y = true ∨ sc0 y = true) → chAs ds pr ar sc ahead x = none → ∀ y ∈ fvAs sc0 x fr, y ∈ fr ∨ top y = true
  | [], sc, sc0, fr, ahead, h, e, y, hy => .inl (by rwa [fvAs] at hy)
  | .mk k a n m vs x :: r, sc, sc0, fr, ahead, h, e, y, hy => by
    rw [chAs] at e
    obtain ⟨e1, e2⟩ := orF_none.1 e
    rw [fvAs] at hy
    rcases fvAs_in r _ _ _ _ h e2 y hy with z | z
    · exact fvA_in (.mk k a n m vs x) _ _ _ _ h e1 y z
    · exact .inr z
end
end
theorem freeF_nodup (l : List Nm) (x : E) : (freeF l x).Nodup := List.Pairwise.filter _ (fvE_nodup x _ _ List.nodup_nil)
theorem chBs_mem {ds : List D} {pr : Nm → Nat} {ar : Nat → Int} {sc : Nm → Bool} : ∀ {l : List B}, chBs ds pr ar sc l = none → ∀ x ∈ l, chB ds pr ar sc x = none
  | [], _, x, h => by cases h
  | y :: r, e, x, h => by
    rw [chBs] at e
    obtain ⟨e1, e2⟩ := orF_none.1 e
    rcases List.mem_cons.1 h with z | z
    · rw [z]; exact e1
    · exact chBs_mem e2 x z
/-- P10.5 -/
theorem right_free {pr : Nm → Nat} {ar : Nat → Int} {p : Pg} (h : checkP pr ar p = none) {nm : Nm} {a : Int} {l : List Nm} {x : E} (hb : B.mk nm a l x ∈ p.binds) : ∀ y ∈ freeF l x, (p.binds.map nameB').contains y = true := by
  intro y hy
  unfold checkP at h
  have h3 := (orF_none.1 (orF_none.1 (orF_none.1 h).2).2).1
  have hx := chBs_mem h3 _ hb
  rw [chB] at hx
  unfold freeF at hy
  rw [List.mem_filter] at hy
  rcases fvE_in (top := fun z => (p.binds.map nameB').contains z || l.contains z) _ _ _ x _ (fun _ => false) [] (fun z hz => .inl hz) (orF_none.1 hx).2 y hy.1 with z | z
  · cases z
  · rw [Bool.or_eq_true] at z
    rcases z with z | z
    · exact z
    · have := hy.2
      rw [z] at this
      cases this
theorem freeF_more (l : List Nm) (x : E) (s : Nm) : freeF (l ++ [s]) x = (freeF l x).filter (fun y => !(y == s)) := by
  unfold freeF
  rw [List.filter_filter]
  congr 1
  funext y
  rw [has_snoc]
  cases l.contains y <;> cases y == s <;> rfl
end Go.Proofs.Ytmlegdnenklkhaa
