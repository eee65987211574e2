/- Which programs are right: a bind more. -/
import Derived.Test.YtcbdolflgpmaoaaDoorScpA
import Derived.Test.YtcbdolflgpmaoaaDoorMorA
import Derived.Test.YtcbdolflgpmaoaaDoorWok
namespace Go.Proofs.YtcbdolflgpmaoaaDoor
set_option linter.unusedVariables false
set_option linter.unusedSimpArgs false

abbrev Sub (sc sc' : Nm → Bool) : Prop := ∀ x, sc x = true → sc' x = true
theorem Sub.more {sc sc' : Nm → Bool} (h : Sub sc sc') (l : List Nm) : Sub (fun y => sc y || l.contains y) (fun y => sc' y || l.contains y) := fun x hx => by
  simp only [Bool.or_eq_true] at hx ⊢
  exact hx.imp (h x) id
theorem Sub.alt {sc sc' : Nm → Bool} (h : Sub sc sc') (k : Int) (n : Nm) (vs : List Nm) : Sub (altS sc k n vs) (altS sc' k n vs) := by
  unfold altS
  by_cases k1 : k = 1
  · rw [if_pos k1, if_pos k1]; exact h.more vs
  · by_cases k3 : k = 3
    · rw [if_neg k1, if_pos k3, if_neg k1, if_pos k3]
      intro x hx
      simp only [Bool.or_eq_true] at hx ⊢
      exact hx.imp (h x) id
    · rw [if_neg k1, if_neg k3, if_neg k1, if_neg k3]; exact h
theorem atm_mono (a : Int) {sc sc' : Nm → Bool} (h : Sub sc sc') : ∀ l, atmF a sc l = none → atmF a sc' l = none
  | [], _ => rfl
  | t :: r, e => by
    rw [atmF] at e ⊢
    by_cases c : t.name ≠ [] ∧ sc t.name = false
    · rw [if_pos c] at e; cases e
    · rw [if_neg c] at e
      rw [if_neg (fun c' => c ⟨c'.1, by cases q : sc t.name with | false => rfl | true => rw [h _ q] at c'; exact absurd c'.2 (by simp)⟩)]
      exact atm_mono a h r e
mutual
theorem mono_E (ds : List D) (pr : Nm → Nat) (ar : Nat → Int) : ∀ (x : E) (sc sc' : Nm → Bool), Sub sc sc' → chE ds pr ar sc x = none → chE ds pr ar sc' x = none
  | .mk k a n m ts bs ks al, sc, sc', h, e => by
    rw [chE] at e ⊢
    by_cases k1 : k = 1
    · rw [if_pos k1] at e ⊢
      by_cases q : sc n = false
      · rw [if_pos q] at e; cases e
      · rw [if_neg q] at e
        have q' : ¬ sc' n = false := fun z => by
          have := h n (by simpa using q)
          rw [this] at z
          cases z
        rw [if_neg q']
        by_cases g : 8 < ts.length
        · rw [if_pos g] at e; cases e
        · rw [if_neg g] at e ⊢
          exact atm_mono a h ts e
    · rw [if_neg k1] at e ⊢
      by_cases k2 : k = 2
      · rw [if_pos k2] at e ⊢
        rw [orF_none] at e ⊢
        exact ⟨e.1, atm_mono a h ts e.2⟩
      · rw [if_neg k2] at e ⊢
        by_cases k3 : k = 3
        · rw [if_pos k3] at e ⊢
          by_cases q : pr n = 0
          · rw [if_pos q] at e; cases e
          · rw [if_neg q] at e ⊢
            by_cases g : ar (pr n) ≠ ts.length
            · rw [if_pos g] at e; cases e
            · rw [if_neg g] at e ⊢
              exact atm_mono a h ts e
        · rw [if_neg k3] at e ⊢
          by_cases k4 : k = 4
          · rw [if_pos k4]
          · rw [if_neg k4] at e ⊢
            by_cases k5 : k = 5
            · rw [if_pos k5] at e ⊢
              by_cases q : bs.length = 0 ∨ ks.length = 0
              · rw [if_pos q] at e; cases e
              · rw [if_neg q] at e ⊢
                rw [orF_none, orF_none] at e ⊢
                exact ⟨e.1, mono_Bs ds pr ar bs _ _ (h.more _) e.2.1, mono_K ds pr ar ks _ _ (h.more _) e.2.2⟩
            · rw [if_neg k5] at e ⊢
              by_cases k6 : k = 6
              · rw [if_pos k6] at e ⊢
                by_cases q : ks.length = 0 ∨ al.length = 0
                · rw [if_pos q] at e; cases e
                · rw [if_neg q] at e ⊢
                  rw [orF_none] at e ⊢
                  exact ⟨mono_K ds pr ar ks _ _ h e.1, mono_As ds pr ar al _ _ h [] e.2⟩
              · rw [if_neg k6] at e; cases e
theorem mono_B (ds : List D) (pr : Nm → Nat) (ar : Nat → Int) : ∀ (x : B) (sc sc' : Nm → Bool), Sub sc sc' → chB ds pr ar sc x = none → chB ds pr ar sc' x = none
  | .mk n a l x, sc, sc', h, e => by
    rw [chB, orF_none] at e ⊢
    exact ⟨e.1, mono_E ds pr ar x _ _ (h.more l) e.2⟩
theorem mono_A (ds : List D) (pr : Nm → Nat) (ar : Nat → Int) : ∀ (x : A) (sc sc' : Nm → Bool), Sub sc sc' → ∀ ahead, chA ds pr ar sc ahead x = none → chA ds pr ar sc' ahead x = none
  | .mk k a n m vs x, sc, sc', h, ahead, e => by
    rw [chA, orF_none] at e ⊢
    exact ⟨e.1, mono_E ds pr ar x _ _ (h.alt k n vs) e.2⟩
theorem mono_K (ds : List D) (pr : Nm → Nat) (ar : Nat → Int) : ∀ (l : List E) (sc sc' : Nm → Bool), Sub sc sc' → chK ds pr ar sc l = none → chK ds pr ar sc' l = none
  | [], _, _, _, _ => rfl
  | x :: r, sc, sc', h, e => by
    rw [chK] at e ⊢
    exact mono_E ds pr ar x _ _ h e
theorem mono_Bs (ds : List D) (pr : Nm → Nat) (ar : Nat → Int) : ∀ (l : List B) (sc sc' : Nm → Bool), Sub sc sc' → chBs ds pr ar sc l = none → chBs ds pr ar sc' l = none
  | [], _, _, _, _ => rfl
  | x :: r, sc, sc', h, e => by
    rw [chBs, orF_none] at e ⊢
    exact ⟨mono_B ds pr ar x _ _ h e.1, mono_Bs ds pr ar r _ _ h e.2⟩
theorem mono_As (ds : List D) (pr : Nm → Nat) (ar : Nat → Int) : ∀ (l : List A) (sc sc' : Nm → Bool), Sub sc sc' → ∀ ahead, chAs ds pr ar sc ahead l = none → chAs ds pr ar sc' ahead l = none
  | [], _, _, _, _, _ => rfl
  | .mk k a n m vs x :: r, sc, sc', h, ahead, e => by
    rw [chAs, orF_none] at e ⊢
    exact ⟨mono_A ds pr ar (.mk k a n m vs x) _ _ h ahead e.1, mono_As ds pr ar r _ _ h _ e.2⟩
end
theorem namF_app : ∀ (l : List B) (ahead : List Nm) (b : B), namF ahead l = none → namF ahead (l ++ [b]) = namF ((l.map nameB').reverse ++ ahead) [b]
  | [], _, _, _ => rfl
  | .mk n a l x :: r, ahead, b, e => by
    rw [namF] at e
    rw [List.cons_append, namF]
    by_cases q : n = []
    · rw [if_pos q] at e; cases e
    · rw [if_neg q] at e ⊢
      by_cases g : ahead.contains n = true
      · rw [if_pos g] at e; cases e
      · rw [if_neg g] at e ⊢
        rw [namF_app r _ b e]
        simp [nameB']
theorem chBs_app (ds : List D) (pr : Nm → Nat) (ar : Nat → Int) (sc : Nm → Bool) : ∀ (l : List B) (b : B), chBs ds pr ar sc (l ++ [b]) = orF (chBs ds pr ar sc l) (chB ds pr ar sc b)
  | [], b => by
    rw [List.nil_append, chBs, chBs, chBs]
    cases chB ds pr ar sc b <;> rfl
  | x :: r, b => by
    rw [List.cons_append, chBs, chBs_app ds pr ar sc r b, chBs]
    cases chB ds pr ar sc x <;> rfl
/-- the bind that the statement adds -/
def moreB (name : Nm) : B := .mk name 12345 [[120]] (.mk 1 0 [120] 0 [⟨name, 0⟩] [] [] [])
theorem moreB_ok (ds : List D) (pr : Nm → Nat) (ar : Nat → Int) (sc : Nm → Bool) (name : Nm) (h : sc name = true) : chB ds pr ar sc (moreB name) = none := by
  rw [moreB, chB, orF_none]
  refine ⟨by decide, ?_⟩
  rw [chE, if_pos rfl, if_neg (by simp), if_neg (by simp), atmF, atmF, if_neg (by simp [h])]
theorem more_check (pr : Nm → Nat) (ar : Nat → Int) (p : Pg) (name : Nm) (h : checkP pr ar p = none) :
    checkP pr ar ⟨p.datas, p.binds ++ [moreB name]⟩ = if name = [] then some (12345, 31) else if (p.binds.map nameB').contains name = true then some (12345, 30) else none := by
  rw [checkP, orF_none, orF_none, orF_none] at h
  obtain ⟨h1, h2, h3, h4⟩ := h
  rw [checkP]
  dsimp only
  rw [h1, orF_left, namF_app _ _ _ h2]
  have hm : (p.binds.map nameB').contains mainN = true := by
    by_cases q : (p.binds.map nameB').contains mainN = true
    · exact q
    · rw [if_neg q] at h4; cases h4
  have hn : namF ((p.binds.map nameB').reverse ++ []) [moreB name] = if name = [] then some (12345, 31) else if (p.binds.map nameB').contains name = true then some (12345, 30) else none := by
    rw [moreB, namF, List.append_nil, List.contains_reverse, namF]
  rw [hn]
  by_cases q : name = []
  · rw [if_pos q]; rfl
  · rw [if_neg q]
    by_cases g : (p.binds.map nameB').contains name = true
    · rw [if_pos g]; rfl
    · rw [if_neg g, orF_left, chBs_app]
      have e0 : ∀ x, ((p.binds ++ [moreB name]).map nameB').contains x = ((p.binds.map nameB').contains x || x == name) := fun x => by
        rw [List.map_append, List.contains_eq_any_beq, List.any_append, ← List.contains_eq_any_beq]
        simp [moreB, nameB']
      have s1 : Sub (fun x => (p.binds.map nameB').contains x) (fun x => ((p.binds ++ [moreB name]).map nameB').contains x) := fun x hx => by
        dsimp only at hx ⊢
        rw [e0, hx, Bool.true_or]
      rw [mono_Bs _ _ _ _ _ _ s1 h3, orF_left]
      have s2 := moreB_ok p.datas pr ar (fun x => ((p.binds ++ [moreB name]).map nameB').contains x) name (by rw [e0]; simp)
      rw [s2, orF_left, e0, hm]
      rfl
end Go.Proofs.YtcbdolflgpmaoaaDoor

/- What the law ScopeMore wants besides: no fault without an error; the names of binds; 78 slots written out. -/
namespace Go.Proofs.YtcbdolflgpmaoaaDoor
open Go.RowKit
set_option linter.unusedVariables false
set_option linter.unusedSimpArgs false

/-- a fault bears an error -/
def nzF (F : Flt) : Prop := ∀ x, F = some x → x.2 ≠ 0
theorem nz_none : nzF none := fun x h => by cases h
theorem nz_some {a c : Int} (h : c ≠ 0) : nzF (some (a, c)) := fun x e => by cases e; exact h
theorem nz_or {a b : Flt} (h : nzF a) (k : nzF b) : nzF (orF a b) := by cases a with | none => exact k | some x => exact h
theorem nz_ite {p : Prop} [Decidable p] {a b : Flt} (h : nzF a) (k : nzF b) : nzF (if p then a else b) := by split <;> assumption
theorem nz_atm (a : Int) (sc : Nm → Bool) : ∀ l, nzF (atmF a sc l)
  | [] => nz_none
  | t :: r => by rw [atmF]; exact nz_ite (nz_some (by decide)) (nz_atm a sc r)
theorem nz_con (a : Int) (n : Option Int) (k : Nat) : nzF (conF a n k) := by
  unfold conF
  cases n with
  | none => exact nz_some (by decide)
  | some m => exact nz_ite nz_none (nz_some (by decide))
theorem nz_nam : ∀ (l : List B) (ahead : List Nm), nzF (namF ahead l)
  | [], _ => nz_none
  | .mk n a _ _ :: r, ahead => by rw [namF]; exact nz_ite (nz_some (by decide)) (nz_ite (nz_some (by decide)) (nz_nam r _))
theorem nz_arg (a : Int) (l : List Nm) : nzF (argF a l) := nz_ite (nz_some (by decide)) (nz_ite (nz_some (by decide)) (nz_ite (nz_some (by decide)) nz_none))
theorem nz_alt (ds : List D) (ahead : List Hd3) (k a : Int) (n : Nm) (m : Int) (vs : List Nm) : nzF (altF ds ahead k a n m vs) := by
  unfold altF
  refine nz_ite (nz_some (by decide)) (nz_ite ?_ (nz_ite (nz_ite (nz_some (by decide)) nz_none) (nz_ite (nz_ite (nz_some (by decide)) nz_none) (nz_some (by decide)))))
  cases arityN ds n with
  | none => exact nz_some (by decide)
  | some r => exact nz_ite (nz_some (by decide)) (nz_ite (nz_some (by decide)) (nz_ite (nz_some (by decide)) (nz_ite (nz_some (by decide)) nz_none)))
mutual
theorem nz_E (ds : List D) (pr : Nm → Nat) (ar : Nat → Int) : ∀ (x : E) (sc : Nm → Bool), nzF (chE ds pr ar sc x)
  | .mk k a n m ts bs ks al, sc => by
    rw [chE]
    refine nz_ite (nz_ite (nz_some (by decide)) (nz_ite (nz_some (by decide)) (nz_atm _ _ _))) (nz_ite (nz_or (nz_con _ _ _) (nz_atm _ _ _)) (nz_ite (nz_ite (nz_some (by decide)) (nz_ite (nz_some (by decide)) (nz_atm _ _ _))) (nz_ite nz_none (nz_ite (nz_ite (nz_some (by decide)) ?_) (nz_ite (nz_ite (nz_some (by decide)) ?_) (nz_some (by decide)))))))
    · exact nz_or (nz_nam _ _) (nz_or (nz_Bs ds pr ar bs _) (nz_K ds pr ar ks _))
    · exact nz_or (nz_K ds pr ar ks _) (nz_As ds pr ar al _ _)
theorem nz_B (ds : List D) (pr : Nm → Nat) (ar : Nat → Int) : ∀ (x : B) (sc : Nm → Bool), nzF (chB ds pr ar sc x)
  | .mk n a l x, sc => by rw [chB]; exact nz_or (nz_arg _ _) (nz_E ds pr ar x _)
theorem nz_A (ds : List D) (pr : Nm → Nat) (ar : Nat → Int) : ∀ (x : A) (sc : Nm → Bool) (ahead : List Hd3), nzF (chA ds pr ar sc ahead x)
  | .mk k a n m vs x, sc, ahead => by rw [chA]; exact nz_or (nz_alt _ _ _ _ _ _ _) (nz_E ds pr ar x _)
theorem nz_K (ds : List D) (pr : Nm → Nat) (ar : Nat → Int) : ∀ (l : List E) (sc : Nm → Bool), nzF (chK ds pr ar sc l)
  | [], _ => by rw [chK]; exact nz_none
  | x :: r, sc => by rw [chK]; exact nz_E ds pr ar x sc
theorem nz_Bs (ds : List D) (pr : Nm → Nat) (ar : Nat → Int) : ∀ (l : List B) (sc : Nm → Bool), nzF (chBs ds pr ar sc l)
  | [], _ => by rw [chBs]; exact nz_none
  | x :: r, sc => by rw [chBs]; exact nz_or (nz_B ds pr ar x sc) (nz_Bs ds pr ar r sc)
theorem nz_As (ds : List D) (pr : Nm → Nat) (ar : Nat → Int) : ∀ (l : List A) (sc : Nm → Bool) (ahead : List Hd3), nzF (chAs ds pr ar sc ahead l)
  | [], _, _ => by rw [chAs]; exact nz_none
  | .mk k a n m vs x :: r, sc, ahead => by rw [chAs]; exact nz_or (nz_A ds pr ar (.mk k a n m vs x) sc ahead) (nz_As ds pr ar r sc _)
end
theorem nz_dat : ∀ (l : List D) (ahead : List Nm), nzF (datF ahead l)
  | [], _ => nz_none
  | d :: r, ahead => by rw [datF]; exact nz_ite (nz_some (by decide)) (nz_ite (nz_some (by decide)) (nz_dat r _))
theorem nz_check (p : Pg) : nzF (checkP prN tA p) := by
  rw [checkP]
  exact nz_or (nz_dat _ _) (nz_or (nz_nam _ _) (nz_or (nz_Bs _ _ _ _ _) (nz_ite nz_none (nz_some (by decide)))))
theorem isE_one {w : World} {ok : Nat → Prop} {x : E} {c : List Value} (h : isE w ok x c) : ∀ u ∈ c, u.oneCell' = true := by
  obtain ⟨_, _, _, _, _, _, _, _, _, _, _, _, _, _, _, _, rfl⟩ := isE_eight h
  intro u hu
  simp only [List.mem_cons, List.not_mem_nil, or_false] at hu
  rcases hu with rfl | rfl | rfl | rfl | rfl | rfl | rfl | rfl <;> rfl
theorem isB_one {w : World} {ok : Nat → Prop} {x : B} {c : List Value} (h : isB w ok x c) : ∀ u ∈ c, u.oneCell' = true := by
  obtain ⟨n, a, l, x⟩ := x
  simp only [isB] at h
  obtain ⟨va, d, rfl, ⟨_, _, rfl, _⟩, I⟩ := h
  intro u hu
  rcases List.mem_append.1 hu with hu | hu
  · simp only [List.mem_cons, List.not_mem_nil, or_false] at hu
    rcases hu with rfl | rfl | rfl <;> rfl
  · exact isE_one I u hu
theorem isBs_one {w : World} {ok : Nat → Prop} : ∀ (l : List B) (c : List Value), isBs w ok l c → ∀ u ∈ c, u.oneCell' = true
  | [], c, h, u, hu => by simp only [isBs] at h; subst h; cases hu
  | x :: r, c, h, u, hu => by
    simp only [isBs] at h
    obtain ⟨c1, c2, rfl, h1, h2⟩ := h
    rcases List.mem_append.1 hu with hu | hu
    · exact isB_one h1 u hu
    · exact isBs_one r c2 h2 u hu
set_option maxHeartbeats 1000000 in
theorem lnames_any {w : World} {ok : Nat → Prop} (bs : List B) (xb : List Value) (v : Value) (R : IsRow w ok xb bs.length v) (RB : isBs w ok bs xb) (s : Nm) :
    Calls Tryd.prog 15 #[v, .string (str s)] w fun e w' => e = .returned (.bool ((bs.map nameB').contains s)) ∧ w' = w := by
  obtain ⟨ga, cap, rfl, hc, hx⟩ := R
  obtain ⟨ls, hls⟩ : ∃ ls, bs.map nameB' = ls := ⟨_, rfl⟩
  rw [hls]
  have HE := Hid.mk hls
  obtain ⟨r, hr⟩ : ∃ r, ls.contains s = r := ⟨_, rfl⟩
  have HR : Hid ((ls.drop 0).contains s = r) := ⟨by rw [List.drop_zero]; exact hr⟩
  have HX := Hid.mk (And.intro hx RB)
  rw [hr]
  obtain ⟨n, hn⟩ : ∃ n, bs.length = n := ⟨_, rfl⟩
  have HN : Hid (bs.length = n ∧ ls.length = n) := ⟨hn, by rw [← hls, List.length_map]; exact hn⟩
  rw [hn] at hc ⊢
  clear hn hr hx hls RB
  go_enter Tryd.func15, Tryd.ntmps15
  go_wp2
  go_loopw [5] (fun c wr => ∃ k : Nat, c = .int .i64 k ∧ k ≤ n ∧ Hid ((ls.drop k).contains s = r) ∧ w = wr) (fun c _ => n - (intOf c).toNat)
  case atStart => exact ⟨0, rfl, Nat.zero_le _, HR, rfl⟩
  case round =>
    obtain ⟨k, rfl, hk, HK, rfl⟩ := hrel
    by_cases hlt : k < n
    · have kb : k < bs.length := by rw [HN.out.1]; exact hlt
      have kl : k < ls.length := by rw [HN.out.2]; exact hlt
      obtain ⟨g, off, rfl, _, hx⟩ := HX.out.1 (by rw [HN.out.1]; omega)
      obtain ⟨d, hd, hg⟩ := isBs_get bs xb HX.out.2 k kb
      have c0 := hx _ _ (hg 0 _ (isB_name hd))
      rw [Nat.add_zero, show nameB' (bs[k]'kb) = ls[k]'kl by simp only [← HE.out, List.getElem_map]] at c0
      have hst := HK.out
      rw [drop_has kl s] at hst
      have hlt' : (k : Int) < n := by omega
      generalize str (ls[k]'kl) = t at c0 hst
      cases q : (t.toList == (str s).toList)
      · rw [q, Bool.false_or] at hst
        have HK' : Hid ((ls.drop (k + 1)).contains s = r) := ⟨hst⟩
        clear hst hx HK HR HX hd hg
        go_wp2
        exact ⟨⟨k + 1, by go_num, by omega, HK', trivial⟩, by simp [intOf]; omega⟩
      · rw [q, Bool.true_or] at hst
        have HT : Hid (true = r) := ⟨hst⟩
        clear hst hx HK HR HX hd hg
        go_wp2
        go_ret
        exact ⟨by rw [← HT.out]; rfl, rfl⟩
    · obtain rfl : k = n := by omega
      have HT : Hid (false = r) := ⟨by have := HK.out; rwa [List.drop_eq_nil_of_le (by rw [HN.out.2]; omega)] at this⟩
      clear HK HR HX
      go_wp2
      go_ret
      exact ⟨by rw [← HT.out]; rfl, rfl⟩
set_option maxRecDepth 100000 in
/-- a list of 78, written out -/
theorem list78 (l : List Value) (h : l.length = 78) : ∃ t0 t1 t2 t3 t4 t5 t6 t7 t8 t9 t10 t11 t12 t13 t14 t15 t16 t17 t18 t19 t20 t21 t22 t23 t24 t25 t26 t27 t28 t29 t30 t31 t32 t33 t34 t35 t36 t37 t38 t39 t40 t41 t42 t43 t44 t45 t46 t47 t48 t49 t50 t51 t52 t53 t54 t55 t56 t57 t58 t59 t60 t61 t62 t63 t64 t65 t66 t67 t68 t69 t70 t71 t72 t73 t74 t75 t76 t77, l = t0 :: t1 :: t2 :: t3 :: t4 :: t5 :: t6 :: t7 :: t8 :: t9 :: t10 :: t11 :: t12 :: t13 :: t14 :: t15 :: t16 :: t17 :: t18 :: t19 :: t20 :: t21 :: t22 :: t23 :: t24 :: t25 :: t26 :: t27 :: t28 :: t29 :: t30 :: t31 :: t32 :: t33 :: t34 :: t35 :: t36 :: t37 :: t38 :: t39 :: t40 :: t41 :: t42 :: t43 :: t44 :: t45 :: t46 :: t47 :: t48 :: t49 :: t50 :: t51 :: t52 :: t53 :: t54 :: t55 :: t56 :: t57 :: t58 :: t59 :: t60 :: t61 :: t62 :: t63 :: t64 :: t65 :: t66 :: t67 :: t68 :: t69 :: t70 :: t71 :: t72 :: t73 :: t74 :: t75 :: t76 :: t77 :: [] := by
  obtain ⟨t0, l0, rfl⟩ := List.exists_cons_of_length_eq_add_one h
  have h0 : l0.length = 77 := by simpa using h
  obtain ⟨t1, l1, rfl⟩ := List.exists_cons_of_length_eq_add_one h0
  have h1 : l1.length = 76 := by simpa using h0
  obtain ⟨t2, l2, rfl⟩ := List.exists_cons_of_length_eq_add_one h1
  have h2 : l2.length = 75 := by simpa using h1
  obtain ⟨t3, l3, rfl⟩ := List.exists_cons_of_length_eq_add_one h2
  have h3 : l3.length = 74 := by simpa using h2
  obtain ⟨t4, l4, rfl⟩ := List.exists_cons_of_length_eq_add_one h3
  have h4 : l4.length = 73 := by simpa using h3
  obtain ⟨t5, l5, rfl⟩ := List.exists_cons_of_length_eq_add_one h4
  have h5 : l5.length = 72 := by simpa using h4
  obtain ⟨t6, l6, rfl⟩ := List.exists_cons_of_length_eq_add_one h5
  have h6 : l6.length = 71 := by simpa using h5
  obtain ⟨t7, l7, rfl⟩ := List.exists_cons_of_length_eq_add_one h6
  have h7 : l7.length = 70 := by simpa using h6
  obtain ⟨t8, l8, rfl⟩ := List.exists_cons_of_length_eq_add_one h7
  have h8 : l8.length = 69 := by simpa using h7
  obtain ⟨t9, l9, rfl⟩ := List.exists_cons_of_length_eq_add_one h8
  have h9 : l9.length = 68 := by simpa using h8
  obtain ⟨t10, l10, rfl⟩ := List.exists_cons_of_length_eq_add_one h9
  have h10 : l10.length = 67 := by simpa using h9
  obtain ⟨t11, l11, rfl⟩ := List.exists_cons_of_length_eq_add_one h10
  have h11 : l11.length = 66 := by simpa using h10
  obtain ⟨t12, l12, rfl⟩ := List.exists_cons_of_length_eq_add_one h11
  have h12 : l12.length = 65 := by simpa using h11
  obtain ⟨t13, l13, rfl⟩ := List.exists_cons_of_length_eq_add_one h12
  have h13 : l13.length = 64 := by simpa using h12
  obtain ⟨t14, l14, rfl⟩ := List.exists_cons_of_length_eq_add_one h13
  have h14 : l14.length = 63 := by simpa using h13
  obtain ⟨t15, l15, rfl⟩ := List.exists_cons_of_length_eq_add_one h14
  have h15 : l15.length = 62 := by simpa using h14
  obtain ⟨t16, l16, rfl⟩ := List.exists_cons_of_length_eq_add_one h15
  have h16 : l16.length = 61 := by simpa using h15
  obtain ⟨t17, l17, rfl⟩ := List.exists_cons_of_length_eq_add_one h16
  have h17 : l17.length = 60 := by simpa using h16
  obtain ⟨t18, l18, rfl⟩ := List.exists_cons_of_length_eq_add_one h17
  have h18 : l18.length = 59 := by simpa using h17
  obtain ⟨t19, l19, rfl⟩ := List.exists_cons_of_length_eq_add_one h18
  have h19 : l19.length = 58 := by simpa using h18
  obtain ⟨t20, l20, rfl⟩ := List.exists_cons_of_length_eq_add_one h19
  have h20 : l20.length = 57 := by simpa using h19
  obtain ⟨t21, l21, rfl⟩ := List.exists_cons_of_length_eq_add_one h20
  have h21 : l21.length = 56 := by simpa using h20
  obtain ⟨t22, l22, rfl⟩ := List.exists_cons_of_length_eq_add_one h21
  have h22 : l22.length = 55 := by simpa using h21
  obtain ⟨t23, l23, rfl⟩ := List.exists_cons_of_length_eq_add_one h22
  have h23 : l23.length = 54 := by simpa using h22
  obtain ⟨t24, l24, rfl⟩ := List.exists_cons_of_length_eq_add_one h23
  have h24 : l24.length = 53 := by simpa using h23
  obtain ⟨t25, l25, rfl⟩ := List.exists_cons_of_length_eq_add_one h24
  have h25 : l25.length = 52 := by simpa using h24
  obtain ⟨t26, l26, rfl⟩ := List.exists_cons_of_length_eq_add_one h25
  have h26 : l26.length = 51 := by simpa using h25
  obtain ⟨t27, l27, rfl⟩ := List.exists_cons_of_length_eq_add_one h26
  have h27 : l27.length = 50 := by simpa using h26
  obtain ⟨t28, l28, rfl⟩ := List.exists_cons_of_length_eq_add_one h27
  have h28 : l28.length = 49 := by simpa using h27
  obtain ⟨t29, l29, rfl⟩ := List.exists_cons_of_length_eq_add_one h28
  have h29 : l29.length = 48 := by simpa using h28
  obtain ⟨t30, l30, rfl⟩ := List.exists_cons_of_length_eq_add_one h29
  have h30 : l30.length = 47 := by simpa using h29
  obtain ⟨t31, l31, rfl⟩ := List.exists_cons_of_length_eq_add_one h30
  have h31 : l31.length = 46 := by simpa using h30
  obtain ⟨t32, l32, rfl⟩ := List.exists_cons_of_length_eq_add_one h31
  have h32 : l32.length = 45 := by simpa using h31
  obtain ⟨t33, l33, rfl⟩ := List.exists_cons_of_length_eq_add_one h32
  have h33 : l33.length = 44 := by simpa using h32
  obtain ⟨t34, l34, rfl⟩ := List.exists_cons_of_length_eq_add_one h33
  have h34 : l34.length = 43 := by simpa using h33
  obtain ⟨t35, l35, rfl⟩ := List.exists_cons_of_length_eq_add_one h34
  have h35 : l35.length = 42 := by simpa using h34
  obtain ⟨t36, l36, rfl⟩ := List.exists_cons_of_length_eq_add_one h35
  have h36 : l36.length = 41 := by simpa using h35
  obtain ⟨t37, l37, rfl⟩ := List.exists_cons_of_length_eq_add_one h36
  have h37 : l37.length = 40 := by simpa using h36
  obtain ⟨t38, l38, rfl⟩ := List.exists_cons_of_length_eq_add_one h37
  have h38 : l38.length = 39 := by simpa using h37
  obtain ⟨t39, l39, rfl⟩ := List.exists_cons_of_length_eq_add_one h38
  have h39 : l39.length = 38 := by simpa using h38
  obtain ⟨t40, l40, rfl⟩ := List.exists_cons_of_length_eq_add_one h39
  have h40 : l40.length = 37 := by simpa using h39
  obtain ⟨t41, l41, rfl⟩ := List.exists_cons_of_length_eq_add_one h40
  have h41 : l41.length = 36 := by simpa using h40
  obtain ⟨t42, l42, rfl⟩ := List.exists_cons_of_length_eq_add_one h41
  have h42 : l42.length = 35 := by simpa using h41
  obtain ⟨t43, l43, rfl⟩ := List.exists_cons_of_length_eq_add_one h42
  have h43 : l43.length = 34 := by simpa using h42
  obtain ⟨t44, l44, rfl⟩ := List.exists_cons_of_length_eq_add_one h43
  have h44 : l44.length = 33 := by simpa using h43
  obtain ⟨t45, l45, rfl⟩ := List.exists_cons_of_length_eq_add_one h44
  have h45 : l45.length = 32 := by simpa using h44
  obtain ⟨t46, l46, rfl⟩ := List.exists_cons_of_length_eq_add_one h45
  have h46 : l46.length = 31 := by simpa using h45
  obtain ⟨t47, l47, rfl⟩ := List.exists_cons_of_length_eq_add_one h46
  have h47 : l47.length = 30 := by simpa using h46
  obtain ⟨t48, l48, rfl⟩ := List.exists_cons_of_length_eq_add_one h47
  have h48 : l48.length = 29 := by simpa using h47
  obtain ⟨t49, l49, rfl⟩ := List.exists_cons_of_length_eq_add_one h48
  have h49 : l49.length = 28 := by simpa using h48
  obtain ⟨t50, l50, rfl⟩ := List.exists_cons_of_length_eq_add_one h49
  have h50 : l50.length = 27 := by simpa using h49
  obtain ⟨t51, l51, rfl⟩ := List.exists_cons_of_length_eq_add_one h50
  have h51 : l51.length = 26 := by simpa using h50
  obtain ⟨t52, l52, rfl⟩ := List.exists_cons_of_length_eq_add_one h51
  have h52 : l52.length = 25 := by simpa using h51
  obtain ⟨t53, l53, rfl⟩ := List.exists_cons_of_length_eq_add_one h52
  have h53 : l53.length = 24 := by simpa using h52
  obtain ⟨t54, l54, rfl⟩ := List.exists_cons_of_length_eq_add_one h53
  have h54 : l54.length = 23 := by simpa using h53
  obtain ⟨t55, l55, rfl⟩ := List.exists_cons_of_length_eq_add_one h54
  have h55 : l55.length = 22 := by simpa using h54
  obtain ⟨t56, l56, rfl⟩ := List.exists_cons_of_length_eq_add_one h55
  have h56 : l56.length = 21 := by simpa using h55
  obtain ⟨t57, l57, rfl⟩ := List.exists_cons_of_length_eq_add_one h56
  have h57 : l57.length = 20 := by simpa using h56
  obtain ⟨t58, l58, rfl⟩ := List.exists_cons_of_length_eq_add_one h57
  have h58 : l58.length = 19 := by simpa using h57
  obtain ⟨t59, l59, rfl⟩ := List.exists_cons_of_length_eq_add_one h58
  have h59 : l59.length = 18 := by simpa using h58
  obtain ⟨t60, l60, rfl⟩ := List.exists_cons_of_length_eq_add_one h59
  have h60 : l60.length = 17 := by simpa using h59
  obtain ⟨t61, l61, rfl⟩ := List.exists_cons_of_length_eq_add_one h60
  have h61 : l61.length = 16 := by simpa using h60
  obtain ⟨t62, l62, rfl⟩ := List.exists_cons_of_length_eq_add_one h61
  have h62 : l62.length = 15 := by simpa using h61
  obtain ⟨t63, l63, rfl⟩ := List.exists_cons_of_length_eq_add_one h62
  have h63 : l63.length = 14 := by simpa using h62
  obtain ⟨t64, l64, rfl⟩ := List.exists_cons_of_length_eq_add_one h63
  have h64 : l64.length = 13 := by simpa using h63
  obtain ⟨t65, l65, rfl⟩ := List.exists_cons_of_length_eq_add_one h64
  have h65 : l65.length = 12 := by simpa using h64
  obtain ⟨t66, l66, rfl⟩ := List.exists_cons_of_length_eq_add_one h65
  have h66 : l66.length = 11 := by simpa using h65
  obtain ⟨t67, l67, rfl⟩ := List.exists_cons_of_length_eq_add_one h66
  have h67 : l67.length = 10 := by simpa using h66
  obtain ⟨t68, l68, rfl⟩ := List.exists_cons_of_length_eq_add_one h67
  have h68 : l68.length = 9 := by simpa using h67
  obtain ⟨t69, l69, rfl⟩ := List.exists_cons_of_length_eq_add_one h68
  have h69 : l69.length = 8 := by simpa using h68
  obtain ⟨t70, l70, rfl⟩ := List.exists_cons_of_length_eq_add_one h69
  have h70 : l70.length = 7 := by simpa using h69
  obtain ⟨t71, l71, rfl⟩ := List.exists_cons_of_length_eq_add_one h70
  have h71 : l71.length = 6 := by simpa using h70
  obtain ⟨t72, l72, rfl⟩ := List.exists_cons_of_length_eq_add_one h71
  have h72 : l72.length = 5 := by simpa using h71
  obtain ⟨t73, l73, rfl⟩ := List.exists_cons_of_length_eq_add_one h72
  have h73 : l73.length = 4 := by simpa using h72
  obtain ⟨t74, l74, rfl⟩ := List.exists_cons_of_length_eq_add_one h73
  have h74 : l74.length = 3 := by simpa using h73
  obtain ⟨t75, l75, rfl⟩ := List.exists_cons_of_length_eq_add_one h74
  have h75 : l75.length = 2 := by simpa using h74
  obtain ⟨t76, l76, rfl⟩ := List.exists_cons_of_length_eq_add_one h75
  have h76 : l76.length = 1 := by simpa using h75
  obtain ⟨t77, l77, rfl⟩ := List.exists_cons_of_length_eq_add_one h76
  have h77 : l77.length = 0 := by simpa using h76
  obtain rfl := List.eq_nil_of_length_eq_zero h77
  exact ⟨t0, t1, t2, t3, t4, t5, t6, t7, t8, t9, t10, t11, t12, t13, t14, t15, t16, t17, t18, t19, t20, t21, t22, t23, t24, t25, t26, t27, t28, t29, t30, t31, t32, t33, t34, t35, t36, t37, t38, t39, t40, t41, t42, t43, t44, t45, t46, t47, t48, t49, t50, t51, t52, t53, t54, t55, t56, t57, t58, t59, t60, t61, t62, t63, t64, t65, t66, t67, t68, t69, t70, t71, t72, t73, t74, t75, t76, t77, rfl⟩
set_option maxRecDepth 100000 in
theorem arr78 (a : Array Value) (h : a.size = 78) : ∃ t0 t1 t2 t3 t4 t5 t6 t7 t8 t9 t10 t11 t12 t13 t14 t15 t16 t17 t18 t19 t20 t21 t22 t23 t24 t25 t26 t27 t28 t29 t30 t31 t32 t33 t34 t35 t36 t37 t38 t39 t40 t41 t42 t43 t44 t45 t46 t47 t48 t49 t50 t51 t52 t53 t54 t55 t56 t57 t58 t59 t60 t61 t62 t63 t64 t65 t66 t67 t68 t69 t70 t71 t72 t73 t74 t75 t76 t77, a = List.toArray (t0 :: t1 :: t2 :: t3 :: t4 :: t5 :: t6 :: t7 :: t8 :: t9 :: t10 :: t11 :: t12 :: t13 :: t14 :: t15 :: t16 :: t17 :: t18 :: t19 :: t20 :: t21 :: t22 :: t23 :: t24 :: t25 :: t26 :: t27 :: t28 :: t29 :: t30 :: t31 :: t32 :: t33 :: t34 :: t35 :: t36 :: t37 :: t38 :: t39 :: t40 :: t41 :: t42 :: t43 :: t44 :: t45 :: t46 :: t47 :: t48 :: t49 :: t50 :: t51 :: t52 :: t53 :: t54 :: t55 :: t56 :: t57 :: t58 :: t59 :: t60 :: t61 :: t62 :: t63 :: t64 :: t65 :: t66 :: t67 :: t68 :: t69 :: t70 :: t71 :: t72 :: t73 :: t74 :: t75 :: t76 :: t77 :: []) := by
  obtain ⟨l⟩ := a
  obtain ⟨t0, t1, t2, t3, t4, t5, t6, t7, t8, t9, t10, t11, t12, t13, t14, t15, t16, t17, t18, t19, t20, t21, t22, t23, t24, t25, t26, t27, t28, t29, t30, t31, t32, t33, t34, t35, t36, t37, t38, t39, t40, t41, t42, t43, t44, t45, t46, t47, t48, t49, t50, t51, t52, t53, t54, t55, t56, t57, t58, t59, t60, t61, t62, t63, t64, t65, t66, t67, t68, t69, t70, t71, t72, t73, t74, t75, t76, t77, rfl⟩ := list78 l h
  exact ⟨t0, t1, t2, t3, t4, t5, t6, t7, t8, t9, t10, t11, t12, t13, t14, t15, t16, t17, t18, t19, t20, t21, t22, t23, t24, t25, t26, t27, t28, t29, t30, t31, t32, t33, t34, t35, t36, t37, t38, t39, t40, t41, t42, t43, t44, t45, t46, t47, t48, t49, t50, t51, t52, t53, t54, t55, t56, t57, t58, t59, t60, t61, t62, t63, t64, t65, t66, t67, t68, t69, t70, t71, t72, t73, t74, t75, t76, t77, rfl⟩
end Go.Proofs.YtcbdolflgpmaoaaDoor

/- The law ScopeMore: the walk. -/
namespace Go.Proofs.YtcbdolflgpmaoaaDoor
open Go.RowKit
set_option linter.unusedVariables false
set_option linter.unusedSimpArgs false

/-- the bind that is put behind, in memory -/
theorem is_more {w : World} {ok : Nat → Prop} {g1 g2 : Nat} (s : Nm) (h1 : Bx w g1 #[.string ⟨#[120]⟩] 9) (h2 : Bx w g2 #[.string (str s), .int .i64 0] 40) (o1 : ok g1) (o2 : ok g2) :
    isB w ok (moreB s) [.string (str s), .int .i64 12345, .slice (some ⟨g1, 0, none⟩) 1 1, .int .i64 1, .int .i64 0, .string ⟨#[120]⟩, .int .i64 0, .slice (some ⟨g2, 0, none⟩) 1 1, nl, nl, nl] := by
  simp only [moreB, isB, isE]
  refine ⟨_, _, rfl, ⟨_, 1, rfl, ⟨by simp, by simp⟩, fun _ => ⟨g1, 0, rfl, o1, fun j u hj => ?_⟩⟩, _, _, _, _, [], [], [], rfl, ⟨_, 1, rfl, ⟨by simp, by simp⟩, fun _ => ⟨g2, 0, rfl, o2, fun j u hj => ?_⟩⟩, row_nil _ _ _, rfl, row_nil _ _ _, rfl, row_nil _ _ _, rfl⟩
  · rw [Nat.zero_add, h1.cell j]; simpa [strC, str] using hj
  · rw [Nat.zero_add, h2.cell j]; simpa [atmC] using hj
theorem mc_one (s : Nm) (g1 g2 : Nat) : ∀ u ∈ (#[.string (str s), .int .i64 12345, .slice (some ⟨g1, 0, none⟩) 1 1, .int .i64 1, .int .i64 0, .string ⟨#[120]⟩, .int .i64 0, .slice (some ⟨g2, 0, none⟩) 1 1, nl, nl, nl] : Array Value).toList, u.oneCell' = true := by
  intro u hu
  simp only [List.mem_cons, List.not_mem_nil, or_false] at hu
  rcases hu with rfl | rfl | rfl | rfl | rfl | rfl | rfl | rfl | rfl | rfl | rfl <;> rfl
theorem ok_more {s : Nm} (h : s.length ≤ maxLen) : okB (moreB s) := by
  simp only [moreB, okB, okE, okBs, okEs, okAs]
  have m1 : ([120] : Nm).length ≤ maxLen := by unfold maxLen; decide
  exact ⟨h, fun x hx => by rw [List.mem_singleton.1 hx]; exact m1, m1, fun t ht => by rw [List.mem_singleton.1 ht]; exact h, trivial, trivial, trivial⟩
theorem nm_more (s : Nm) : nmB (moreB s) = 1 := by simp [moreB, nmB, nmE, nmBs, nmEs, nmAs]
theorem okBs_snoc : ∀ (l : List B) (x : B), okBs l → okB x → okBs (l ++ [x])
  | [], x, _, h => by simp only [List.nil_append, okBs]; exact ⟨h, trivial⟩
  | y :: r, x, k, h => by
    simp only [okBs] at k
    simp only [List.cons_append, okBs]
    exact ⟨k.1, okBs_snoc r x k.2 h⟩
/-- what lies in memory behind the statement is the greater program -/
theorem more_mem {wz wx : World} {p : Pg} {s : Nm} {gd gB : Option Addr} {cd cB : Nat} {xb : List Value} {g1 g2 : Nat} {mc : List Value} (em : mc = [.string (str s), .int .i64 12345, .slice (some ⟨g1, 0, none⟩) 1 1, .int .i64 1, .int .i64 0, .string ⟨#[120]⟩, .int .i64 0, .slice (some ⟨g2, 0, none⟩) 1 1, nl, nl, nl])
    (ID : IsRow wz (fun g => g < wz.heap.size) (datC p.datas) p.datas.length (.slice gd p.datas.length cd)) (IB : isBs wz (fun g => g < wz.heap.size) p.binds xb) (h1 : Bx wz g1 #[.string ⟨#[120]⟩] 9) (h2 : Bx wz g2 #[.string (str s), .int .i64 0] 40) (B : Below wz.heap.size wz wx)
    (R : RowS wx wz.heap.size 49 11 (.slice gB (p.binds.length + 1) cB) (p.binds.length + 1) (xb ++ mc)) (hn : p.binds.length ≤ 100000000) :
    isPV wx (fun g => g < wx.heap.size) ⟨p.datas, p.binds ++ [moreB s]⟩ (.agg #[.slice gd p.datas.length cd, .slice gB (p.binds.length + 1) cB]) := by
  have kk : Keeps (fun g => g < wz.heap.size) (fun g => g < wx.heap.size) wz wx := keeps_below B (fun g h => Nat.lt_of_lt_of_le h B.size)
  refine ⟨_, _, xb ++ mc, rfl, ID.keeps kk, ?_, isBs_snoc _ _ _ _ (isBs_keeps kk _ _ IB) ?_⟩
  · rw [List.length_append, List.length_singleton]
    exact row_own R (fun g _ h => h) (by omega)
  · rw [em]
    exact is_more s (h1.blw B) (h2.blw B) ((h1.blw B).lt) ((h2.blw B).lt)
set_option maxRecDepth 100000 in
set_option maxHeartbeats 4000000 in
theorem more_bad (v : Value) (p : Pg) (s : Nm) (w : World) (T : Table w) (I : isPV w (fun g => g < w.heap.size) p v) (ok : okPg p.datas p.binds) (h2 : p.binds.length + 2 * nmBs p.binds ≤ 100000000) (a c : Int) (hF : checkP prN tA p = some (a, c)) :
    Calls Tryd.prog 7 #[v, .string (str s)] w fun e w' => e = .returned (.bool true) ∧ Below w.heap.size w w' := by
  obtain ⟨vd, vb, xb, rfl, ID, IB, IBS⟩ := id I
  obtain ⟨gd, cd, rfl, _, _⟩ := ID
  obtain ⟨gb, cb, rfl, _, _⟩ := IB
  have K1 := Joins.below_alloc1 w (.cells #[.slice gd p.datas.length cd, .slice gb p.binds.length cb] 25)
  have X1 : Bx (w.alloc (.cells #[.slice gd p.datas.length cd, .slice gb p.binds.length cb] 25)) w.heap.size #[.slice gd p.datas.length cd, .slice gb p.binds.length cb] 25 := heap_alloc_new w _
  have C1 := pcheck_V (T.later K1) (pv_lift I K1) ok (by omega)
  have hc : (c == 0) = false := beq_eq_false_iff_ne.2 (nz_check p _ hF)
  rw [hF] at C1
  simp only [atF, erF] at C1
  have HAW := Hid.mk (fun (W : World) (k : Below w.heap.size w W) => awake_any W (T.later k))
  have HK := Hid.mk K1
  have y0 := X1.cell 0
  have y1 := X1.cell 1
  generalize p.datas.length = ld at *
  generalize p.binds.length = lb at *
  clear I ok h2 T K1 X1 IBS hF
  go_enter Tryd.func7, Tryd.ntmps7
  go_wp2_with (first
    | (go_at_call 10; refine (HAW.out _ HB3.out).mono ?_; rintro e w4 ⟨rfl, B4⟩; have HB4 := Hid.mk (HB3.out.trans (Joins.below_le B4 HB3.out.size)); clear B4)
    | (go_at_call 10; refine (HAW.out _ HB2.out).mono ?_; rintro e w3 ⟨rfl, B3⟩; have HB3 := Hid.mk (HB2.out.trans (Joins.below_le B3 HB2.out.size)); clear B3)
    | (go_at_call 8; refine C1.mono ?_; rintro e w2 ⟨rfl, B2⟩; have HB2 := Hid.mk (HK.out.trans (Joins.below_le B2 HK.out.size)); clear B2 C1))
  go_ret
  exact ⟨rfl, HB4.out⟩
set_option maxRecDepth 100000 in
set_option maxHeartbeats 16000000 in
theorem more_good (v : Value) (p : Pg) (s : Nm) (hs : s.length ≤ maxLen) (w : World) (T : Table w) (I : isPV w (fun g => g < w.heap.size) p v) (ok : okPg p.datas p.binds) (h2 : p.binds.length + 2 * nmBs p.binds ≤ 100000000) (hF : checkP prN tA p = none) :
    Calls Tryd.prog 7 #[v, .string (str s)] w fun e w' => e = .returned (.bool true) ∧ Below w.heap.size w w' := by
  obtain ⟨vd, vb, xb, rfl, ID, IB, IBS⟩ := id I
  have ID0 := ID
  have IB0 := IB
  obtain ⟨gd, cd, rfl, _, _⟩ := ID
  obtain ⟨gb, cb, rfl, _, _⟩ := IB
  have K1 := Joins.below_alloc1 w (.cells #[.slice gd p.datas.length cd, .slice gb p.binds.length cb] 25)
  have X1 : Bx (w.alloc (.cells #[.slice gd p.datas.length cd, .slice gb p.binds.length cb] 25)) w.heap.size #[.slice gd p.datas.length cd, .slice gb p.binds.length cb] 25 := heap_alloc_new w _
  have C1 := pcheck_V (T.later K1) (pv_lift I K1) ok (by omega)
  rw [hF] at C1
  simp only [atF, erF] at C1
  have HAW := Hid.mk (fun (W : World) (k : Below w.heap.size w W) => awake_any W (T.later k))
  have HK := Hid.mk K1
  have y0 := X1.cell 0
  have y1 := X1.cell 1
  have HX1 := Hid.mk X1
  -- what is behind the statement
  have HQ := Hid.mk (fun (wz wx : World) (kz : Below w.heap.size w wz) (g1 g2 : Nat) (h1 : Bx wz g1 #[.string ⟨#[120]⟩] 9) (h2' : Bx wz g2 #[.string (str s), .int .i64 0] 40) (B : Below wz.heap.size wz wx) (gB : Option Addr) (cB : Nat) (mc : List Value) (em : mc = [.string (str s), .int .i64 12345, .slice (some ⟨g1, 0, none⟩) 1 1, .int .i64 1, .int .i64 0, .string ⟨#[120]⟩, .int .i64 0, .slice (some ⟨g2, 0, none⟩) 1 1, nl, nl, nl]) (R : RowS wx wz.heap.size 49 11 (.slice gB (p.binds.length + 1) cB) (p.binds.length + 1) (xb ++ mc)) => by
    have kk : Keeps (fun g => g < w.heap.size) (fun g => g < wz.heap.size) w wz := keeps_below kz (fun g h => Nat.lt_of_lt_of_le h kz.size)
    have IV := more_mem em (ID0.keeps kk) (isBs_keeps kk _ _ IBS) h1 h2' B R (by omega)
    have CK := pcheck_V (T.later (kz.trans (Joins.below_le B kz.size))) IV ⟨ok.1, okBs_snoc _ _ ok.2 (ok_more hs)⟩ (by simp only [List.length_append, List.length_singleton, nmBs_app, nmBs, nm_more]; omega)
    rw [more_check prN tA p s hF] at CK
    exact CK)
  have HNM := Hid.mk (fun (W : World) (k : Below w.heap.size w W) => lnames_any (w := W) (ok := fun g => g < W.heap.size) p.binds xb (.slice gb p.binds.length cb) (IB0.keeps (keeps_below k (fun g h => Nat.lt_of_lt_of_le h k.size))) (isBs_keeps (keeps_below k (fun g h => Nat.lt_of_lt_of_le h k.size)) _ _ IBS) s)
  have HXS : Hid (∀ W, Below w.heap.size w W → 0 < p.binds.length → ∃ ad, gb = some ad ∧ ∀ j u, xb[j]? = some u → W.cell? (ad.add j) = some u) := ⟨fun W k => row_src (IB0.keeps (keeps_below (ok' := fun _ => True) k (fun g h => trivial)))⟩
  have HXL := Hid.mk (And.intro (isBs_length _ _ IBS) (isBs_one _ _ IBS))
  have hlb : p.binds.length ≤ 100000000 := by omega
  generalize (p.binds.map nameB').contains s = q at HQ HNM
  generalize p.datas.length = ld at *
  generalize p.binds.length = lb at *
  clear I ok h2 T K1 X1 IBS hF ID0 IB0 hs
  go_enter Tryd.func7, Tryd.ntmps7
  go_wp2_with (first
    | (go_at_call 10; refine (HAW.out _ HB2.out).mono ?_; rintro e w3 ⟨rfl, B3⟩; have HB3 := Hid.mk (HB2.out.trans (Joins.below_le B3 HB2.out.size)); have XW3 := Hid.mk (show Bx w3 w.heap.size #[.slice gd ld cd, .slice gb lb cb] 25 from (B3.block _ XW2.out.lt).trans XW2.out); clear B3)
    | (go_at_call 8; refine C1.mono ?_; rintro e w2 ⟨rfl, B2⟩; have HB2 := Hid.mk (HK.out.trans (Joins.below_le B2 HK.out.size)); have XW2 := Hid.mk (show Bx w2 w.heap.size #[.slice gd ld cd, .slice gb lb cb] 25 from (B2.block _ HX1.out.lt).trans HX1.out); clear B2 C1))
  have A1 : Bx (w3.alloc (.cells #[.string ⟨#[120]⟩] 9)) w3.heap.size #[.string ⟨#[120]⟩] 9 := heap_alloc_new w3 _
  have A2 : Bx ((w3.alloc (.cells #[.string ⟨#[120]⟩] 9)).alloc (.cells #[.string (str s), .int .i64 0] 40)) (w3.heap.size + 1) #[.string (str s), .int .i64 0] 40 := by have := heap_alloc_new (w3.alloc (.cells #[.string ⟨#[120]⟩] 9)) (.cells #[.string (str s), .int .i64 0] 40); rwa [World.size_alloc] at this
  have KA := Joins.below_alloc1 (w3.alloc (.cells #[.string ⟨#[120]⟩] 9)) (.cells #[.string (str s), .int .i64 0] 40)
  have KB := Joins.below_alloc1 ((w3.alloc (.cells #[.string ⟨#[120]⟩] 9)).alloc (.cells #[.string (str s), .int .i64 0] 40)) (.cells #[.string (str s), .int .i64 12345, .slice (some ⟨w3.heap.size, 0, none⟩) 1 1, .int .i64 1, .int .i64 0, .string ⟨#[120]⟩, .int .i64 0, .slice (some ⟨w3.heap.size + 1, 0, none⟩) 1 1, nl, nl, nl] 49)
  have A1z := (A1.blw KA).blw KB
  have A2z := A2.blw KB
  have K3 : Below w3.heap.size w3 (((w3.alloc (.cells #[.string ⟨#[120]⟩] 9)).alloc (.cells #[.string (str s), .int .i64 0] 40)).alloc (.cells #[.string (str s), .int .i64 12345, .slice (some ⟨w3.heap.size, 0, none⟩) 1 1, .int .i64 1, .int .i64 0, .string ⟨#[120]⟩, .int .i64 0, .slice (some ⟨w3.heap.size + 1, 0, none⟩) 1 1, nl, nl, nl] 49)) := ((Joins.below_alloc1 w3 _).alloc (Joins.below_alloc1 w3 _).size _).alloc ((Joins.below_alloc1 w3 (.cells #[.string ⟨#[120]⟩] 9)).alloc (Joins.below_alloc1 w3 _).size (.cells #[.string (str s), .int .i64 0] 40)).size _
  have KZ := Hid.mk (HB3.out.trans (Joins.below_le K3 HB3.out.size))
  have XZ : Bx (((w3.alloc (.cells #[.string ⟨#[120]⟩] 9)).alloc (.cells #[.string (str s), .int .i64 0] 40)).alloc (.cells #[.string (str s), .int .i64 12345, .slice (some ⟨w3.heap.size, 0, none⟩) 1 1, .int .i64 1, .int .i64 0, .string ⟨#[120]⟩, .int .i64 0, .slice (some ⟨w3.heap.size + 1, 0, none⟩) 1 1, nl, nl, nl] 49)) w.heap.size #[.slice gd ld cd, .slice gb lb cb] 25 := (K3.block _ XW3.out.lt).trans XW3.out
  have YZ : Bx (((w3.alloc (.cells #[.string ⟨#[120]⟩] 9)).alloc (.cells #[.string (str s), .int .i64 0] 40)).alloc (.cells #[.string (str s), .int .i64 12345, .slice (some ⟨w3.heap.size, 0, none⟩) 1 1, .int .i64 1, .int .i64 0, .string ⟨#[120]⟩, .int .i64 0, .slice (some ⟨w3.heap.size + 1, 0, none⟩) 1 1, nl, nl, nl] 49)) (w3.heap.size + 1 + 1) #[.string (str s), .int .i64 12345, .slice (some ⟨w3.heap.size, 0, none⟩) 1 1, .int .i64 1, .int .i64 0, .string ⟨#[120]⟩, .int .i64 0, .slice (some ⟨w3.heap.size + 1, 0, none⟩) 1 1, nl, nl, nl] 49 := by have := heap_alloc_new ((w3.alloc (.cells #[.string ⟨#[120]⟩] 9)).alloc (.cells #[.string (str s), .int .i64 0] 40)) (.cells #[.string (str s), .int .i64 12345, .slice (some ⟨w3.heap.size, 0, none⟩) 1 1, .int .i64 1, .int .i64 0, .string ⟨#[120]⟩, .int .i64 0, .slice (some ⟨w3.heap.size + 1, 0, none⟩) 1 1, nl, nl, nl] 49); rwa [World.size_alloc, World.size_alloc] at this
  have HZ := Hid.mk (And.intro A1z A2z)
  have HXZ := Hid.mk XZ
  rename_i K' hK
  refine five_run (c := { a0 := _, wz := (((w3.alloc (.cells #[.string ⟨#[120]⟩] 9)).alloc (.cells #[.string (str s), .int .i64 0] 40)).alloc (.cells #[.string (str s), .int .i64 12345, .slice (some ⟨w3.heap.size, 0, none⟩) 1 1, .int .i64 1, .int .i64 0, .string ⟨#[120]⟩, .int .i64 0, .slice (some ⟨w3.heap.size + 1, 0, none⟩) 1 1, nl, nl, nl] 49)), X := w.heap.size, Y := w3.heap.size + 1 + 1, gd := gd, ld := ld, cd := cd, gb := gb, lb := lb, cb := cb, xb := xb, mc := #[.string (str s), .int .i64 12345, .slice (some ⟨w3.heap.size, 0, none⟩) 1 1, .int .i64 1, .int .i64 0, .string ⟨#[120]⟩, .int .i64 0, .slice (some ⟨w3.heap.size + 1, 0, none⟩) 1 1, nl, nl, nl] }) ⟨rfl, rfl, rfl, XZ.cell 0, XZ.cell 1, YZ, ⟨rfl, mc_one _ _ _⟩, HXL.out, fun W k => HXS.out W (KZ.out.trans (Joins.below_le k KZ.out.size)), by show lb ≤ 1000000000; omega⟩ (five_start _) ?_
  rintro ⟨lt, df⟩ wx ⟨hdf, hsz⟩ hks ⟨g, gB, cB, e8, hb, hr⟩ hB
  obtain ⟨t0, t1, t2, t3, t4, t5, t6, t7, t8, t9, t10, t11, t12, t13, t14, t15, t16, t17, t18, t19, t20, t21, t22, t23, t24, t25, t26, t27, t28, t29, t30, t31, t32, t33, t34, t35, t36, t37, t38, t39, t40, t41, t42, t43, t44, t45, t46, t47, t48, t49, t50, t51, t52, t53, t54, t55, t56, t57, t58, t59, t60, t61, t62, t63, t64, t65, t66, t67, t68, t69, t70, t71, t72, t73, t74, t75, t76, t77, rfl⟩ := arr78 lt hsz
  obtain rfl : df = [] := hdf
  have e0 := hks 0 (by decide)
  conv at e0 => lhs; whnf
  conv at e0 => rhs; whnf
  subst e0
  have e1 := hks 1 (by decide)
  conv at e1 => lhs; whnf
  conv at e1 => rhs; whnf
  subst e1
  have e2 := hks 2 (by decide)
  conv at e2 => lhs; whnf
  conv at e2 => rhs; whnf
  subst e2
  have e3 := hks 3 (by decide)
  conv at e3 => lhs; whnf
  conv at e3 => rhs; whnf
  subst e3
  have e4 := hks 4 (by decide)
  conv at e4 => lhs; whnf
  conv at e4 => rhs; whnf
  subst e4
  have e5 := hks 5 (by decide)
  conv at e5 => lhs; whnf
  conv at e5 => rhs; whnf
  subst e5
  have e6 := hks 6 (by decide)
  conv at e6 => lhs; whnf
  conv at e6 => rhs; whnf
  subst e6
  have e7 := hks 7 (by decide)
  conv at e7 => lhs; whnf
  conv at e7 => rhs; whnf
  subst e7
  have e9 := hks 9 (by decide)
  conv at e9 => lhs; whnf
  conv at e9 => rhs; whnf
  subst e9
  have e10 := hks 10 (by decide)
  conv at e10 => lhs; whnf
  conv at e10 => rhs; whnf
  subst e10
  have e11 := hks 11 (by decide)
  conv at e11 => lhs; whnf
  conv at e11 => rhs; whnf
  subst e11
  have e12 := hks 12 (by decide)
  conv at e12 => lhs; whnf
  conv at e12 => rhs; whnf
  subst e12
  have e13 := hks 13 (by decide)
  conv at e13 => lhs; whnf
  conv at e13 => rhs; whnf
  subst e13
  have e14 := hks 14 (by decide)
  conv at e14 => lhs; whnf
  conv at e14 => rhs; whnf
  subst e14
  have e15 := hks 15 (by decide)
  conv at e15 => lhs; whnf
  conv at e15 => rhs; whnf
  subst e15
  have e16 := hks 16 (by decide)
  conv at e16 => lhs; whnf
  conv at e16 => rhs; whnf
  subst e16
  have e17 := hks 17 (by decide)
  conv at e17 => lhs; whnf
  conv at e17 => rhs; whnf
  subst e17
  have e18 := hks 18 (by decide)
  conv at e18 => lhs; whnf
  conv at e18 => rhs; whnf
  subst e18
  have e19 := hks 19 (by decide)
  conv at e19 => lhs; whnf
  conv at e19 => rhs; whnf
  subst e19
  have e20 := hks 20 (by decide)
  conv at e20 => lhs; whnf
  conv at e20 => rhs; whnf
  subst e20
  have e21 := hks 21 (by decide)
  conv at e21 => lhs; whnf
  conv at e21 => rhs; whnf
  subst e21
  have e22 := hks 22 (by decide)
  conv at e22 => lhs; whnf
  conv at e22 => rhs; whnf
  subst e22
  have e23 := hks 23 (by decide)
  conv at e23 => lhs; whnf
  conv at e23 => rhs; whnf
  subst e23
  have e24 := hks 24 (by decide)
  conv at e24 => lhs; whnf
  conv at e24 => rhs; whnf
  subst e24
  have e25 := hks 25 (by decide)
  conv at e25 => lhs; whnf
  conv at e25 => rhs; whnf
  subst e25
  have e26 := hks 26 (by decide)
  conv at e26 => lhs; whnf
  conv at e26 => rhs; whnf
  subst e26
  have e27 := hks 27 (by decide)
  conv at e27 => lhs; whnf
  conv at e27 => rhs; whnf
  subst e27
  have e28 := hks 28 (by decide)
  conv at e28 => lhs; whnf
  conv at e28 => rhs; whnf
  subst e28
  have e29 := hks 29 (by decide)
  conv at e29 => lhs; whnf
  conv at e29 => rhs; whnf
  subst e29
  have e30 := hks 30 (by decide)
  conv at e30 => lhs; whnf
  conv at e30 => rhs; whnf
  subst e30
  have e31 := hks 31 (by decide)
  conv at e31 => lhs; whnf
  conv at e31 => rhs; whnf
  subst e31
  have e32 := hks 32 (by decide)
  conv at e32 => lhs; whnf
  conv at e32 => rhs; whnf
  subst e32
  have e33 := hks 33 (by decide)
  conv at e33 => lhs; whnf
  conv at e33 => rhs; whnf
  subst e33
  have e34 := hks 34 (by decide)
  conv at e34 => lhs; whnf
  conv at e34 => rhs; whnf
  subst e34
  have e45 := hks 45 (by decide)
  conv at e45 => lhs; whnf
  conv at e45 => rhs; whnf
  subst e45
  have e46 := hks 46 (by decide)
  conv at e46 => lhs; whnf
  conv at e46 => rhs; whnf
  subst e46
  have e47 := hks 47 (by decide)
  conv at e47 => lhs; whnf
  conv at e47 => rhs; whnf
  subst e47
  have e48 := hks 48 (by decide)
  conv at e48 => lhs; whnf
  conv at e48 => rhs; whnf
  subst e48
  have e49 := hks 49 (by decide)
  conv at e49 => lhs; whnf
  conv at e49 => rhs; whnf
  subst e49
  have e50 := hks 50 (by decide)
  conv at e50 => lhs; whnf
  conv at e50 => rhs; whnf
  subst e50
  have e51 := hks 51 (by decide)
  conv at e51 => lhs; whnf
  conv at e51 => rhs; whnf
  subst e51
  have e52 := hks 52 (by decide)
  conv at e52 => lhs; whnf
  conv at e52 => rhs; whnf
  subst e52
  have e53 := hks 53 (by decide)
  conv at e53 => lhs; whnf
  conv at e53 => rhs; whnf
  subst e53
  have e54 := hks 54 (by decide)
  conv at e54 => lhs; whnf
  conv at e54 => rhs; whnf
  subst e54
  have e55 := hks 55 (by decide)
  conv at e55 => lhs; whnf
  conv at e55 => rhs; whnf
  subst e55
  have e56 := hks 56 (by decide)
  conv at e56 => lhs; whnf
  conv at e56 => rhs; whnf
  subst e56
  have e57 := hks 57 (by decide)
  conv at e57 => lhs; whnf
  conv at e57 => rhs; whnf
  subst e57
  have e58 := hks 58 (by decide)
  conv at e58 => lhs; whnf
  conv at e58 => rhs; whnf
  subst e58
  have e59 := hks 59 (by decide)
  conv at e59 => lhs; whnf
  conv at e59 => rhs; whnf
  subst e59
  have e60 := hks 60 (by decide)
  conv at e60 => lhs; whnf
  conv at e60 => rhs; whnf
  subst e60
  have e61 := hks 61 (by decide)
  conv at e61 => lhs; whnf
  conv at e61 => rhs; whnf
  subst e61
  have e62 := hks 62 (by decide)
  conv at e62 => lhs; whnf
  conv at e62 => rhs; whnf
  subst e62
  have e63 := hks 63 (by decide)
  conv at e63 => lhs; whnf
  conv at e63 => rhs; whnf
  subst e63
  have e64 := hks 64 (by decide)
  conv at e64 => lhs; whnf
  conv at e64 => rhs; whnf
  subst e64
  have e65 := hks 65 (by decide)
  conv at e65 => lhs; whnf
  conv at e65 => rhs; whnf
  subst e65
  have e66 := hks 66 (by decide)
  conv at e66 => lhs; whnf
  conv at e66 => rhs; whnf
  subst e66
  have e67 := hks 67 (by decide)
  conv at e67 => lhs; whnf
  conv at e67 => rhs; whnf
  subst e67
  have e68 := hks 68 (by decide)
  conv at e68 => lhs; whnf
  conv at e68 => rhs; whnf
  subst e68
  have e69 := hks 69 (by decide)
  conv at e69 => lhs; whnf
  conv at e69 => rhs; whnf
  subst e69
  have e70 := hks 70 (by decide)
  conv at e70 => lhs; whnf
  conv at e70 => rhs; whnf
  subst e70
  have e71 := hks 71 (by decide)
  conv at e71 => lhs; whnf
  conv at e71 => rhs; whnf
  subst e71
  have e72 := hks 72 (by decide)
  conv at e72 => lhs; whnf
  conv at e72 => rhs; whnf
  subst e72
  have e73 := hks 73 (by decide)
  conv at e73 => lhs; whnf
  conv at e73 => rhs; whnf
  subst e73
  have e74 := hks 74 (by decide)
  conv at e74 => lhs; whnf
  conv at e74 => rhs; whnf
  subst e74
  have e75 := hks 75 (by decide)
  conv at e75 => lhs; whnf
  conv at e75 => rhs; whnf
  subst e75
  have e76 := hks 76 (by decide)
  conv at e76 => lhs; whnf
  conv at e76 => rhs; whnf
  subst e76
  have e77 := hks 77 (by decide)
  conv at e77 => lhs; whnf
  conv at e77 => rhs; whnf
  subst e77
  conv at e8 => lhs; whnf
  subst e8
  have HBX := Hid.mk (KZ.out.trans (Joins.below_le hB KZ.out.size))
  have C2 := HQ.out _ wx KZ.out _ _ HZ.out.1 HZ.out.2 hB gB cB _ rfl hr
  have NM := fun (W : World) (k : Below wx.heap.size wx W) => HNM.out W (HBX.out.trans (Joins.below_le k HBX.out.size))
  have p0 := (show Bx wx g #[.slice gd ld cd, .slice gB (lb + 1) cB] 25 from hb).cell 0
  have p1 := (show Bx wx g #[.slice gd ld cd, .slice gB (lb + 1) cB] 25 from hb).cell 1
  have HXX := Hid.mk (show Bx wx w.heap.size #[.slice gd ld cd, .slice gb lb cb] 25 from (hB.block _ XZ.lt).trans XZ)
  clear hB hr hb XZ YZ A1 A2 KA KB A1z A2z K3 hks
  refine hK _ _ ?_
  by_cases q0 : s = []
  · rw [if_pos q0] at C2
    simp only [atF, erF] at C2
    have q' : (str s).toList = [] := by rw [q0, ByteArray.toList_eq]; rfl
    clear q0
    go_wp2_with (go_at_call 8; refine C2.mono ?_; rintro e w9 ⟨rfl, B9⟩; have HE := Hid.mk (HBX.out.trans (Joins.below_le B9 HBX.out.size)); clear B9)
    go_ret
    exact ⟨rfl, HE.out⟩
  · rw [if_neg q0] at C2
    have q' : ¬ (str s).toList = [] := by rw [ByteArray.toList_eq, str_list]; exact q0
    have q2 : (str s).toList.isEmpty = false := by rw [ByteArray.toList_eq, str_list]; simp [q0]
    clear q0
    cases q with
    | true =>
      rw [if_pos rfl] at C2
      simp only [atF, erF] at C2
      go_wp2_with (first
        | (go_at_call 8; refine C2.mono ?_; rintro e w9 ⟨rfl, B9⟩; have HE := Hid.mk (HBX.out.trans (Joins.below_le B9 HBX.out.size)); have XW9 : Bx w9 w.heap.size #[.slice gd ld cd, .slice gb lb cb] 25 := HXX.out.blw B9; have z1 := XW9.cell 1; have NN := NM _ B9; clear B9 XW9)
        | (go_at_call 15; refine NN.mono ?_; rintro e w10 ⟨rfl, rfl⟩))
      go_ret
      exact ⟨rfl, HE.out⟩
    | false =>
      rw [if_neg (by simp)] at C2
      simp only [atF, erF] at C2
      go_wp2_with (first
        | (go_at_call 8; refine C2.mono ?_; rintro e w9 ⟨rfl, B9⟩; have HE := Hid.mk (HBX.out.trans (Joins.below_le B9 HBX.out.size)); have XW9 : Bx w9 w.heap.size #[.slice gd ld cd, .slice gb lb cb] 25 := HXX.out.blw B9; have z1 := XW9.cell 1; have NN := NM _ B9; clear B9 XW9)
        | (go_at_call 15; refine NN.mono ?_; rintro e w10 ⟨rfl, rfl⟩))
      go_ret
      exact ⟨rfl, HE.out⟩
end Go.Proofs.YtcbdolflgpmaoaaDoor
