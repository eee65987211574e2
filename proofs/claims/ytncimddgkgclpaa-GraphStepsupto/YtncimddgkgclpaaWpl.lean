/- Plain: where a graph's nodes lead, and where going on ends. -/
import Derived.Test.YtncimddgkgclpaaGra
namespace Go.Proofs.Ytncimddgkgclpaa
set_option linter.unusedVariables false
set_option linter.unusedSimpArgs false

/-- the closure of a relation -/
inductive St (R : Nat → Nat → Prop) : Nat → Nat → Prop
  | refl (n : Nat) : St R n n
  | step {a b c : Nat} : R a b → St R b c → St R a c
theorem St.trans {R : Nat → Nat → Prop} {a b c : Nat} (h : St R a b) (g : St R b c) : St R a c := by
  induction h with
  | refl => exact g
  | step r _ ih => exact .step r (ih g)
theorem St.mono {R S : Nat → Nat → Prop} (hs : ∀ a b, R a b → S a b) {a b : Nat} (h : St R a b) : St S a b := by
  induction h with
  | refl => exact .refl _
  | step r _ ih => exact .step (hs _ _ r) ih
/-- two ways from one place, of which one ends: the other lies on it -/
theorem St.onto {R : Nat → Nat → Prop} {a b c : Nat} (det : ∀ x y z, R x y → R x z → y = z) (h : St R a c) (hc : ∀ x, ¬ R c x) (g : St R a b) : St R b c := by
  induction g with
  | refl => exact h
  | step r _ ih =>
    cases h with
    | refl => exact absurd r (hc _)
    | step q t => exact ih (det _ _ _ q r ▸ t)

/-- a kid's number, if it is a node's -/
def kdO (m : Nat) (x : Nd) (i : Nat) : Option Nat :=
  match x.ks[i]? with
  | some k => if 0 ≤ k ∧ k < m then some k.toNat else none
  | none => none
def oI : Option Nat → Int
  | some n => n
  | none => -1
def nd0 (g : List Nd) (n : Nat) : Nd := g[n]?.getD ⟨0, 0, [], []⟩
theorem nd0_get {g : List Nd} {n : Nat} (h : n < g.length) : nd0 g n = g[n] := by simp [nd0, h]
theorem kdO_lt {m : Nat} {x : Nd} {i n : Nat} (h : kdO m x i = some n) : n < m := by
  unfold kdO at h
  split at h
  · split at h
    · cases h; omega
    · cases h
  · cases h
/-- the field that a KSel x names, of the node c -/
def fdO (m : Nat) (x c : Nd) : Option Nat :=
  match x.ns with
  | [] => none
  | j :: _ => if c.k = 1 ∧ c.i = x.i then kdO m c j.toNat else none
theorem fdO_k {m : Nat} {x c : Nd} {n : Nat} (h : fdO m x c = some n) : c.k = 1 := by
  unfold fdO at h
  split at h
  · cases h
  · split at h
    · rename_i q; exact q.1
    · cases h
theorem fdO_lt {m : Nat} {x c : Nd} {n : Nat} (h : fdO m x c = some n) : n < m := by
  unfold fdO at h
  split at h
  · cases h
  · split at h
    · exact kdO_lt h
    · cases h
/-- where a node leads, by so many times -/
def Ld (g : List Nd) : Nat → Nat → Nat → Prop
  | 0, _, _ => False
  | t + 1, n, x => n < g.length ∧ (((nd0 g n).k = 8 ∧ kdO g.length (nd0 g n) 0 = some x) ∨ ((nd0 g n).k = 7 ∧ ∃ q c, kdO g.length (nd0 g n) 0 = some q ∧ St (Ld g t) q c ∧ fdO g.length (nd0 g n) (nd0 g c) = some x))
def Lead (g : List Nd) (n x : Nat) : Prop := ∃ t, Ld g t n x
theorem Ld.kind {g : List Nd} : ∀ {t n x : Nat}, Ld g t n x → (nd0 g n).k = 8 ∨ (nd0 g n).k = 7
  | 0, _, _, h => h.elim
  | _ + 1, _, _, ⟨_, .inl h⟩ => .inl h.1
  | _ + 1, _, _, ⟨_, .inr h⟩ => .inr h.1
theorem Ld.lt {g : List Nd} : ∀ {t n x : Nat}, Ld g t n x → n < g.length ∧ x < g.length
  | 0, _, _, h => h.elim
  | _ + 1, _, _, ⟨l, .inl h⟩ => ⟨l, kdO_lt h.2⟩
  | _ + 1, _, _, ⟨l, .inr ⟨_, _, _, _, _, h⟩⟩ => ⟨l, fdO_lt h⟩
theorem Ld.succ {g : List Nd} : ∀ (t : Nat) (n x : Nat), Ld g t n x → Ld g (t + 1) n x
  | 0, _, _, h => h.elim
  | t + 1, _, _, ⟨l, .inl h⟩ => ⟨l, .inl h⟩
  | t + 1, _, _, ⟨l, .inr ⟨k, q, c, e1, e2, e3⟩⟩ => ⟨l, .inr ⟨k, q, c, e1, e2.mono (Ld.succ t), e3⟩⟩
theorem Ld.up {g : List Nd} {t s n x : Nat} (hs : t ≤ s) (h : Ld g t n x) : Ld g s n x := by
  induction hs with
  | refl => exact h
  | step _ ih => exact Ld.succ _ _ _ ih
theorem no_con {g : List Nd} {c : Nat} (hc : (nd0 g c).k = 1) (t x : Nat) : ¬ Ld g t c x := fun h => by
  rcases h.kind with q | q <;> omega
theorem Ld.det {g : List Nd} : ∀ (t : Nat) {n x y : Nat}, Ld g t n x → Ld g t n y → x = y
  | 0, _, _, _, h, _ => h.elim
  | t + 1, _, _, _, ⟨_, .inl h⟩, ⟨_, .inl k⟩ => by
    have := h.2.symm.trans k.2
    simpa using this
  | t + 1, _, _, _, ⟨_, .inl h⟩, ⟨_, .inr k⟩ => by have := h.1; have := k.1; omega
  | t + 1, _, _, _, ⟨_, .inr h⟩, ⟨_, .inl k⟩ => by have := h.1; have := k.1; omega
  | t + 1, n, x, y, ⟨_, .inr ⟨_, q, c, e1, e2, e3⟩⟩, ⟨_, .inr ⟨_, q', c', f1, f2, f3⟩⟩ => by
    have hq : q = q' := by have := e1.symm.trans f1; simpa using this
    subst hq
    have d := fun a b c (h : Ld g t a b) (k : Ld g t a c) => Ld.det t h k
    have hc : c = c' := by
      have := St.onto d e2 (fun x => no_con (fdO_k e3) t x) f2
      cases this with
      | refl => rfl
      | step r _ => exact absurd r (no_con (fdO_k f3) t _)
    subst hc
    have := e3.symm.trans f3
    simpa using this
theorem Lead.det {g : List Nd} {n x y : Nat} : Lead g n x → Lead g n y → x = y := fun ⟨t, h⟩ ⟨s, k⟩ =>
  Ld.det (max t s) (h.up (Nat.le_max_left _ _)) (k.up (Nat.le_max_right _ _))
theorem Lead.lt {g : List Nd} {n x : Nat} : Lead g n x → n < g.length ∧ x < g.length := fun ⟨_, h⟩ => h.lt
theorem St.at {g : List Nd} {a b : Nat} (h : St (Lead g) a b) : ∃ t, St (Ld g t) a b := by
  induction h with
  | refl => exact ⟨0, .refl _⟩
  | step r _ ih =>
    obtain ⟨t, ht⟩ := ih
    obtain ⟨s, hs⟩ := r
    exact ⟨max t s, .step (hs.up (Nat.le_max_right _ _)) (ht.mono fun _ _ q => q.up (Nat.le_max_left _ _))⟩
theorem Lead.ind {g : List Nd} {n x : Nat} (h : n < g.length) (k : (nd0 g n).k = 8) (e : kdO g.length (nd0 g n) 0 = some x) : Lead g n x := ⟨1, h, .inl ⟨k, e⟩⟩
theorem Lead.sel {g : List Nd} {n q c x : Nat} (h : n < g.length) (k : (nd0 g n).k = 7) (e : kdO g.length (nd0 g n) 0 = some q) (s : St (Lead g) q c) (f : fdO g.length (nd0 g n) (nd0 g c) = some x) : Lead g n x := by
  obtain ⟨t, ht⟩ := s.at
  exact ⟨t + 1, h, .inr ⟨k, q, c, e, ht, f⟩⟩
theorem Lead.inv {g : List Nd} {n x : Nat} : Lead g n x → n < g.length ∧ (((nd0 g n).k = 8 ∧ kdO g.length (nd0 g n) 0 = some x) ∨ ((nd0 g n).k = 7 ∧ ∃ q c, kdO g.length (nd0 g n) 0 = some q ∧ St (Lead g) q c ∧ fdO g.length (nd0 g n) (nd0 g c) = some x))
  | ⟨0, h⟩ => h.elim
  | ⟨_ + 1, l, .inl h⟩ => ⟨l, .inl h⟩
  | ⟨t + 1, l, .inr ⟨k, q, c, e1, e2, e3⟩⟩ => ⟨l, .inr ⟨k, q, c, e1, e2.mono fun _ _ r => ⟨t, r⟩, e3⟩⟩
theorem no_lead {g : List Nd} {c : Nat} (hc : (nd0 g c).k = 1) (x : Nat) : ¬ Lead g c x := fun ⟨t, h⟩ => no_con hc t x h
theorem St.lt {g : List Nd} {a b : Nat} (h : St (Lead g) a b) (ha : a < g.length) : b < g.length := by
  induction h with
  | refl => exact ha
  | step r _ ih => exact ih r.lt.2

/-! ## Ends -/
/-- going on from n ends at e -/
structure En (g : List Nd) (n e : Nat) : Prop where
  st : St (Lead g) n e
  no : ∀ x, ¬ Lead g e x
theorem En.uniq {g : List Nd} {n e f : Nat} (h : En g n e) (k : En g n f) : e = f := by
  have := St.onto (R := Lead g) (fun _ _ _ a b => Lead.det a b) h.st h.no k.st
  cases this with
  | refl => rfl
  | step r _ => exact absurd r (k.no _)
open Classical in
noncomputable def endF (g : List Nd) (n : Nat) : Option Nat := if h : ∃ e, En g n e then some h.choose else none
theorem endF_en {g : List Nd} {n e : Nat} (h : En g n e) : endF g n = some e := by
  have hx : ∃ e, En g n e := ⟨e, h⟩
  unfold endF
  rw [dif_pos hx]
  exact congrArg some (hx.choose_spec.uniq h)
theorem endF_some {g : List Nd} {n e : Nat} (h : endF g n = some e) : En g n e := by
  unfold endF at h
  split at h
  · rename_i hx
    cases h
    exact hx.choose_spec
  · cases h
theorem endF_none {g : List Nd} {n : Nat} (h : ∀ e, ¬ En g n e) : endF g n = none := by
  unfold endF
  rw [dif_neg (fun ⟨e, q⟩ => h e q)]
theorem endF_self {g : List Nd} {n : Nat} (h : ∀ x, ¬ Lead g n x) : endF g n = some n := endF_en ⟨.refl _, h⟩
theorem endF_lead {g : List Nd} {n x : Nat} (h : Lead g n x) : endF g n = endF g x := by
  cases hx : endF g x with
  | some e => exact endF_en ⟨.step h (endF_some hx).st, (endF_some hx).no⟩
  | none =>
    refine endF_none fun e q => ?_
    have := St.onto (R := Lead g) (fun _ _ _ a b => Lead.det a b) q.st q.no (.step h (.refl _))
    rw [endF_en ⟨this, q.no⟩] at hx
    cases hx
theorem endF_st {g : List Nd} {n x : Nat} (h : St (Lead g) n x) : endF g n = endF g x := by
  induction h with
  | refl => rfl
  | step r _ ih => exact (endF_lead r).trans ih
theorem endF_lt {g : List Nd} {n e : Nat} (h : endF g n = some e) (hn : n < g.length) : e < g.length := (endF_some h).st.lt hn
/-- what goes round is lost -/
theorem endF_loop {g : List Nd} {n x : Nat} (h : Lead g n x) (k : St (Lead g) x n) : endF g n = none := by
  refine endF_none fun e q => ?_
  have key : ∀ a b, St (Lead g) a b → (∃ y, Lead g a y ∧ St (Lead g) y n) → ∃ y, Lead g b y ∧ St (Lead g) y n := by
    intro a b hab
    induction hab with
    | refl => exact id
    | step r _ ih =>
      intro ⟨y, hy, hn⟩
      have e := Lead.det r hy
      subst e
      refine ih ?_
      cases hn with
      | refl => exact ⟨x, h, k⟩
      | step r2 t => exact ⟨_, r2, t⟩
  obtain ⟨y, hy, _⟩ := key n e q.st ⟨x, h, k⟩
  exact q.no _ hy
theorem sel_no {g : List Nd} {n q : Nat} (k : (nd0 g n).k = 7) (e : kdO g.length (nd0 g n) 0 = some q) (f : ∀ c, endF g q = some c → fdO g.length (nd0 g n) (nd0 g c) = none) (x : Nat) : ¬ Lead g n x := by
  intro h
  rcases h.inv.2 with ⟨a, _⟩ | ⟨_, q', c, e1, e2, e3⟩
  · omega
  · have hq : q = q' := by have := e.symm.trans e1; simpa using this
    subst hq
    have := f c (endF_en ⟨e2, no_lead (fdO_k e3)⟩)
    rw [this] at e3
    cases e3
theorem kid_no {g : List Nd} {n : Nat} (e : kdO g.length (nd0 g n) 0 = none) (x : Nat) : ¬ Lead g n x := by
  intro h
  rcases h.inv.2 with ⟨_, a⟩ | ⟨_, q', c, e1, e2, e3⟩
  · rw [e] at a; cases a
  · rw [e] at e1; cases e1
theorem kind_no {g : List Nd} {n : Nat} (h8 : (nd0 g n).k ≠ 8) (h7 : (nd0 g n).k ≠ 7) (x : Nat) : ¬ Lead g n x := fun ⟨_, h⟩ => h.kind.elim h8 h7
theorem sel_yes {g : List Nd} {n q c x : Nat} (h : n < g.length) (k : (nd0 g n).k = 7) (e : kdO g.length (nd0 g n) 0 = some q) (f : endF g q = some c) (e3 : fdO g.length (nd0 g n) (nd0 g c) = some x) : Lead g n x :=
  Lead.sel h k e (endF_some f).st e3

/-! ## Nodes that wait -/
/-- a node that leads to x, or waits for its kid x -/
def Wt (g : List Nd) (s : Nat × Bool) (x : Nat) : Prop := if s.2 = true then Lead g s.1 x else s.1 < g.length ∧ (nd0 g s.1).k = 7 ∧ kdO g.length (nd0 g s.1) 0 = some x
/-- a path from n to x -/
def Chn (g : List Nd) : List (Nat × Bool) → Nat → Nat → Prop
  | [], n, x => n = x
  | s :: r, n, x => s.1 = n ∧ ∃ y, Wt g s y ∧ Chn g r y x
theorem Chn.app {g : List Nd} : ∀ {p q : List (Nat × Bool)} {n x y : Nat}, Chn g p n y → Chn g q y x → Chn g (p ++ q) n x
  | [], _, _, _, _, h, k => by cases h; exact k
  | s :: r, _, _, _, _, ⟨e, y, w, h⟩, k => ⟨e, y, w, Chn.app h k⟩
theorem Chn.split {g : List Nd} : ∀ {p q : List (Nat × Bool)} {n x : Nat}, Chn g (p ++ q) n x → ∃ y, Chn g p n y ∧ Chn g q y x
  | [], _, n, _, h => ⟨n, rfl, h⟩
  | s :: r, _, _, _, ⟨e, y, w, h⟩ => by
    obtain ⟨z, h1, h2⟩ := Chn.split h
    exact ⟨z, ⟨e, y, w, h1⟩, h2⟩
theorem Wt.lt {g : List Nd} {s : Nat × Bool} {x : Nat} (h : Wt g s x) : s.1 < g.length ∧ x < g.length := by
  unfold Wt at h
  split at h
  · exact h.lt
  · exact ⟨h.1, kdO_lt h.2.2⟩
/-- from n either a node that does not lead is met, or the end of the path -/
theorem Chn.walk {g : List Nd} : ∀ {p : List (Nat × Bool)} {n x : Nat}, Chn g p n x → (∃ f, (f, false) ∈ p ∧ St (Lead g) n f) ∨ (St (Lead g) n x ∧ ∀ s ∈ p, s.2 = true)
  | [], _, _, h => by cases h; exact .inr ⟨.refl _, fun _ h => absurd h (by simp)⟩
  | (a, true) :: r, n, x, ⟨e, y, w, h⟩ => by
    have w' : Lead g n y := by cases e; simpa [Wt] using w
    rcases h.walk with ⟨f, m, st⟩ | ⟨st, al⟩
    · exact .inl ⟨f, List.mem_cons_of_mem _ m, .step w' st⟩
    · exact .inr ⟨.step w' st, fun s hs => (List.mem_cons.1 hs).elim (fun e => e ▸ rfl) (al s)⟩
  | (a, false) :: r, n, x, ⟨e, y, w, h⟩ => .inl ⟨a, by simp, by cases e; exact .refl _⟩
/-- the end of a ring -/
def ringO (p : List (Nat × Bool)) : Option Nat := (p.find? fun s => !s.2).map (·.1)
theorem onto2 {g : List Nd} {t a b c : Nat} (h : St (Ld g t) a c) (hc : ∀ x, ¬ Lead g c x) (k : St (Lead g) a b) : St (Ld g t) b c := by
  induction k with
  | refl => exact h
  | step r _ ih =>
    cases h with
    | refl => exact absurd r (hc _)
    | step q s => exact ih (Lead.det ⟨t, q⟩ r ▸ s)
theorem ring_no {g : List Nd} {p : List (Nat × Bool)} {n : Nat} (h : Chn g p n n) : ∀ (t : Nat) (f : Nat), (f, false) ∈ p → ∀ y, ¬ Ld g t f y
  | 0, _, _, _ => id
  | t + 1, f, hf, y => by
    intro hl
    obtain ⟨pre, post, rfl⟩ := List.append_of_mem hf
    obtain ⟨a, h1, e, q, w, h2⟩ := h.split
    cases e
    have w' : f < g.length ∧ (nd0 g f).k = 7 ∧ kdO g.length (nd0 g f) 0 = some q := by simpa [Wt] using w
    rcases hl.2 with ⟨b, _⟩ | ⟨_, q', c, e1, e2, e3⟩
    · have := w'.2.1; omega
    have hq : q = q' := by have := w'.2.2.symm.trans e1; simpa using this
    subst hq
    have fin : ∀ f', (f', false) ∈ pre ++ (f, false) :: post → St (Lead g) q f' → False := by
      intro f' m st
      have s := onto2 e2 (no_lead (fdO_k e3)) st
      have k7 : (nd0 g f').k = 7 := by
        obtain ⟨u, v, e⟩ := List.append_of_mem m
        have h' := h
        rw [e] at h'
        obtain ⟨a', _, e', y', w2, _⟩ := h'.split
        have : f' < g.length ∧ (nd0 g f').k = 7 ∧ kdO g.length (nd0 g f') 0 = some y' := by simpa [Wt] using w2
        exact this.2.1
      cases s with
      | refl => have := fdO_k e3; omega
      | step r _ => exact ring_no h t f' m _ r
    rcases h2.walk with ⟨f', m, st⟩ | ⟨st, _⟩
    · exact fin f' (by simp [m]) st
    · have h1' : Chn g (pre ++ [(f, false)]) n q := h1.app ⟨rfl, q, w, rfl⟩
      rcases h1'.walk with ⟨f', m, st'⟩ | ⟨_, al⟩
      · exact fin f' (by rcases List.mem_append.1 m with m | m <;> simp_all) (st.trans st')
      · have := al (f, false) (by simp)
        cases this
theorem ring_end {g : List Nd} {p : List (Nat × Bool)} {n : Nat} (h : Chn g p n n) (hp : p ≠ []) : endF g n = ringO p := by
  unfold ringO
  cases hf : p.find? fun s => !s.2 with
  | none =>
    have al : ∀ s ∈ p, s.2 = true := by
      intro s hs
      have := List.find?_eq_none.1 hf s hs
      simpa using this
    match p, hp, h, al with
    | (a, true) :: r, _, ⟨e, y, w, h2⟩, al =>
      cases e
      have w' : Lead g a y := by simpa [Wt] using w
      rcases h2.walk with ⟨f, m, _⟩ | ⟨st, _⟩
      · have := al _ (List.mem_cons_of_mem _ m); cases this
      · exact endF_loop w' st
    | (a, false) :: r, _, _, al => have := al (a, false) (by simp); cases this
  | some s =>
    obtain ⟨f, b⟩ := s
    have hb : b = false := by have := List.find?_some hf; simpa using this
    subst hb
    obtain ⟨_, pre, post, e, al⟩ := List.find?_eq_some_iff_append.1 hf
    have h' := h
    rw [e] at h'
    obtain ⟨a, h1, e2, _⟩ := h'.split
    cases e2
    have st : St (Lead g) n f := by
      rcases h1.walk with ⟨f', m, _⟩ | ⟨st, _⟩
      · have := al _ m; simp at this
      · exact st
    rw [endF_st st]
    exact endF_self fun x ⟨t, q⟩ => ring_no h t f (e ▸ by simp) x q
end Go.Proofs.Ytncimddgkgclpaa
