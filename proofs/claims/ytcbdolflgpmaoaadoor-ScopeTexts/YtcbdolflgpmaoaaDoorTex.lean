/- What is parsed weighs no more than its tokens, and its numbers are of sixty-four bits: of no program. -/
import Derived.Test.YtcbdolflgpmaoaaDoorPrg
import Derived.Test.YtcbdolflgpmaoaaDoorTreeGood
import Derived.Test.YtcbdolflgpmaoaaDoorRps
import Derived.Test.YtcbdolflgpmaoaaDoorWok
namespace Go.Proofs.YtcbdolflgpmaoaaDoor
set_option linter.unusedVariables false
set_option linter.unusedSimpArgs false

/-- what tokens weigh -/
def mu : List Tok → Nat
  | [] => 0
  | t :: r => 5 + t.text.length + mu r
/-- a part of the grammar: what it answers weighs no more than what it ate, and is of sixty-four bits -/
def Ws {α : Type} (p : List Tok → PR α) (wt : α → Nat) (fin : α → Prop) : Prop := ∀ l a r, Good l → p l = .ok (a, r) → wt a + mu r ≤ mu l ∧ fin a ∧ Good r
theorem in64 {t : Tok} {r : List Tok} (h : Good (t :: r)) : In64 t.num := ⟨(h.head).lo, (h.head).hi⟩
theorem ws_kind (k : Int) (l : List Tok) (a : Tok) (r : List Tok) (hg : Good l) (h : pKind k l = .ok (a, r)) : 5 + a.text.length + mu r ≤ mu l ∧ In64 a.num ∧ Good r := by
  obtain ⟨rfl, _⟩ := pKind_eats h
  exact ⟨by simp only [mu]; omega, in64 hg, hg.tail⟩
theorem ws_want (s : List UInt8) (l : List Tok) (a : Unit) (r : List Tok) (hg : Good l) (h : pWant s l = .ok (a, r)) : 5 + mu r ≤ mu l ∧ True ∧ Good r := by
  obtain ⟨_, t, rfl⟩ := pWant_eats h
  exact ⟨by simp only [mu]; omega, trivial, hg.tail⟩
theorem ws_names : ∀ l, Good l → wtN (pNames l).1 + mu (pNames l).2 ≤ mu l ∧ Good (pNames l).2
  | [], hg => ⟨by simp [pNames, wtN, mu], hg⟩
  | t :: r, hg => by
    have ih := ws_names r hg.tail
    unfold pNames
    split
    · exact ⟨by simp only [wtN, mu]; omega, ih.2⟩
    · exact ⟨by simp only [wtN, mu]; omega, hg⟩
theorem ws_atoms : ∀ l, Good l → wtT (pAtoms l).1 + mu (pAtoms l).2 ≤ mu l ∧ Good (pAtoms l).2 ∧ ∀ a ∈ (pAtoms l).1, In64 a.num
  | [], hg => ⟨by simp [pAtoms, wtT, mu], hg, fun a h => by simp [pAtoms] at h⟩
  | t :: r, hg => by
    have ih := ws_atoms r hg.tail
    unfold pAtoms
    split
    · refine ⟨by simp only [wtT, mu]; omega, ih.2.1, fun a h => ?_⟩
      rcases List.mem_cons.1 h with rfl | h
      · exact in64 hg
      · exact ih.2.2 a h
    · exact ⟨by simp only [wtT, mu]; omega, hg, fun a h => by cases h⟩
theorem ws_args : Ws pArgs wtN (fun _ => True) := fun l a r hg h => by
  unfold pArgs at h
  split at h
  · rename_i hs
    cases l with
    | nil => cases hs
    | cons t0 l =>
    simp only [List.tail_cons] at h
    obtain ⟨t, r1, h1, h⟩ := andT_ok h
    obtain ⟨u, r2, h2, h⟩ := andT_ok h
    obtain ⟨a1, _, g1⟩ := ws_kind 1 _ _ _ hg.tail h1
    obtain ⟨a2, g2⟩ := ws_names r1 g1
    obtain ⟨a3, _, g3⟩ := ws_want _ _ _ _ g2 h2
    cases h
    exact ⟨by simp only [wtN, mu] at *; omega, trivial, g3⟩
  · cases h
    exact ⟨by simp only [wtN]; omega, trivial, hg⟩
theorem ws_bind {ex : List Tok → PR E} (he : Ws ex wtE finE) : Ws (pBind ex) wtB finB := fun l a r hg h => by
  unfold pBind at h
  obtain ⟨t, r1, h1, h⟩ := andT_ok h
  obtain ⟨_, r2, h2, h⟩ := andT_ok h
  obtain ⟨ns, r3, h3, h⟩ := andT_ok h
  obtain ⟨x, r4, h4, h⟩ := andT_ok h
  obtain ⟨_, r5, h5, h⟩ := andT_ok h
  obtain ⟨a1, _, g1⟩ := ws_kind 1 _ _ _ hg h1
  obtain ⟨a2, _, g2⟩ := ws_want _ _ _ _ g1 h2
  obtain ⟨a3, _, g3⟩ := ws_args _ _ _ g2 h3
  obtain ⟨a4, f4, g4⟩ := he _ _ _ g3 h4
  obtain ⟨a5, _, g5⟩ := ws_want _ _ _ _ g4 h5
  cases h
  exact ⟨by simp only [wtB]; omega, by simp only [finB]; exact f4, g5⟩
theorem ws_head {l r : List Tok} {a} (hg : Good l) (h : pHead l = .ok (a, r)) : 5 + a.2.2.1.length + wtN a.2.2.2.2 + mu r ≤ mu l ∧ (In64 a.1 ∧ In64 a.2.2.2.1) ∧ Good r := by
  cases l with
  | nil => cases h
  | cons t q =>
    have z : In64 0 := ⟨by decide, by decide⟩
    have hn := ws_names q hg.tail
    simp only [pHead] at h
    split at h
    · cases h; exact ⟨by simp only [mu]; omega, ⟨(show In64 (1 : Int) from ⟨by decide, by decide⟩), z⟩, hn.2⟩
    · split at h
      · cases h; exact ⟨by simp only [mu, wtN, List.length_nil]; omega, ⟨(show In64 (2 : Int) from ⟨by decide, by decide⟩), in64 hg⟩, hg.tail⟩
      · split at h
        · cases h; exact ⟨by simp only [mu, wtN]; omega, ⟨(show In64 (3 : Int) from ⟨by decide, by decide⟩), z⟩, hg.tail⟩
        · cases h
theorem ws_alt {ex : List Tok → PR E} (he : Ws ex wtE finE) : Ws (pAlt ex) wtA finA := fun l a r hg h => by
  unfold pAlt at h
  obtain ⟨t, r1, h1, h⟩ := andT_ok h
  obtain ⟨_, r2, h2, h⟩ := andT_ok h
  obtain ⟨x, r4, h4, h⟩ := andT_ok h
  obtain ⟨_, r5, h5, h⟩ := andT_ok h
  obtain ⟨a1, f1, g1⟩ := ws_head hg h1
  obtain ⟨a2, _, g2⟩ := ws_want _ _ _ _ g1 h2
  obtain ⟨a4, f4, g4⟩ := he _ _ _ g2 h4
  obtain ⟨a5, _, g5⟩ := ws_want _ _ _ _ g4 h5
  cases h
  exact ⟨by simp only [wtA]; omega, by simp only [finA]; exact ⟨f1.1, f1.2, f4⟩, g5⟩
theorem ws_manyB {one : List Tok → PR B} (ho : Ws one wtB finB) : ∀ n, Ws (manyF one n) wtBs finBs
  | 0 => fun l a r hg h => by cases h
  | n + 1 => fun l a r hg h => by
    unfold manyF at h
    obtain ⟨x, r1, h1, h⟩ := andT_ok h
    obtain ⟨a1, f1, g1⟩ := ho _ _ _ hg h1
    split at h
    · rename_i hs
      cases r1 with
      | nil => cases hs
      | cons t q =>
        cases h
        simp only [List.tail_cons, mu] at *
        exact ⟨by simp only [wtBs]; omega, by simp only [finBs]; exact ⟨f1, trivial⟩, g1.tail⟩
    · obtain ⟨xs, r2, h2, h⟩ := andT_ok h
      obtain ⟨a2, f2, g2⟩ := ws_manyB ho n _ _ _ g1 h2
      cases h
      exact ⟨by simp only [wtBs]; omega, by simp only [finBs]; exact ⟨f1, f2⟩, g2⟩
theorem ws_manyA {one : List Tok → PR A} (ho : Ws one wtA finA) : ∀ n, Ws (manyF one n) wtAs finAs
  | 0 => fun l a r hg h => by cases h
  | n + 1 => fun l a r hg h => by
    unfold manyF at h
    obtain ⟨x, r1, h1, h⟩ := andT_ok h
    obtain ⟨a1, f1, g1⟩ := ho _ _ _ hg h1
    split at h
    · rename_i hs
      cases r1 with
      | nil => cases hs
      | cons t q =>
        cases h
        simp only [List.tail_cons, mu] at *
        exact ⟨by simp only [wtAs]; omega, by simp only [finAs]; exact ⟨f1, trivial⟩, g1.tail⟩
    · obtain ⟨xs, r2, h2, h⟩ := andT_ok h
      obtain ⟨a2, f2, g2⟩ := ws_manyA ho n _ _ _ g1 h2
      cases h
      exact ⟨by simp only [wtAs]; omega, by simp only [finAs]; exact ⟨f1, f2⟩, g2⟩
theorem ws_exp : ∀ d, Ws (pExp d) wtE finE
  | 0 => fun l a r hg h => by cases l <;> cases h
  | d + 1 => fun l a r hg h => by
    have ih := ws_exp d
    have z : In64 0 := ⟨by decide, by decide⟩
    cases l with
    | nil => cases h
    | cons t q =>
      have i64 := in64 hg
      have gt := hg.tail
      unfold pExp at h
      split at h
      · cases h
        exact ⟨by simp only [wtE, wtT, wtBs, wtEs, wtAs, List.length_nil, mu]; omega, by simp only [finE, finBs, finEs, finAs]; exact ⟨i64, (fun a h => by cases h), trivial, trivial, trivial⟩, gt⟩
      · split at h
        · have ha := ws_atoms q gt
          cases h
          exact ⟨by simp only [wtE, wtBs, wtEs, wtAs, mu]; omega, by simp only [finE, finBs, finEs, finAs]; exact ⟨z, ha.2.2, trivial, trivial, trivial⟩, ha.2.1⟩
        · split at h
          · obtain ⟨_, r1, h1, h⟩ := andT_ok h
            obtain ⟨bs, r2, h2, h⟩ := andT_ok h
            obtain ⟨_, r3, h3, h⟩ := andT_ok h
            obtain ⟨x, r4, h4, h⟩ := andT_ok h
            obtain ⟨a1, _, g1⟩ := ws_want _ _ _ _ gt h1
            obtain ⟨a2, f2, g2⟩ := ws_manyB (ws_bind ih) _ _ _ _ g1 h2
            obtain ⟨a3, _, g3⟩ := ws_want _ _ _ _ g2 h3
            obtain ⟨a4, f4, g4⟩ := ih _ _ _ g3 h4
            cases h
            exact ⟨by simp only [wtE, wtT, wtEs, wtAs, List.length_nil, mu]; omega, by simp only [finE, finEs, finAs]; exact ⟨z, (fun a h => by cases h), f2, ⟨f4, trivial⟩, trivial⟩, g4⟩
          · split at h
            · obtain ⟨x, r1, h1, h⟩ := andT_ok h
              obtain ⟨_, r2, h2, h⟩ := andT_ok h
              obtain ⟨_, r3, h3, h⟩ := andT_ok h
              obtain ⟨al, r4, h4, h⟩ := andT_ok h
              obtain ⟨a1, f1, g1⟩ := ih _ _ _ gt h1
              obtain ⟨a2, _, g2⟩ := ws_want _ _ _ _ g1 h2
              obtain ⟨a3, _, g3⟩ := ws_want _ _ _ _ g2 h3
              obtain ⟨a4, f4, g4⟩ := ws_manyA (ws_alt ih) _ _ _ _ g3 h4
              cases h
              exact ⟨by simp only [wtE, wtT, wtBs, wtEs, List.length_nil, mu]; omega, by simp only [finE, finBs, finEs]; exact ⟨z, (fun a h => by cases h), trivial, ⟨f1, trivial⟩, f4⟩, g4⟩
            · split at h
              · obtain ⟨x, r1, h1, h⟩ := andT_ok h
                obtain ⟨_, r2, h2, h⟩ := andT_ok h
                obtain ⟨a1, f1, g1⟩ := ih _ _ _ gt h1
                obtain ⟨a2, _, g2⟩ := ws_want _ _ _ _ g1 h2
                cases h
                exact ⟨by simp only [mu]; omega, f1, g2⟩
              · cases h
theorem ws_data : Ws pData wtD (fun d => In64 d.arity) := fun l a r hg h => by
  unfold pData at h
  obtain ⟨c, r1, h1, h⟩ := andT_ok h
  obtain ⟨m, r2, h2, h⟩ := andT_ok h
  obtain ⟨_, r3, h3, h⟩ := andT_ok h
  obtain ⟨a1, _, g1⟩ := ws_kind _ _ _ _ hg h1
  obtain ⟨a2, f2, g2⟩ := ws_kind _ _ _ _ g1 h2
  obtain ⟨a3, _, g3⟩ := ws_want _ _ _ _ g2 h3
  cases h
  exact ⟨by simp only [wtD]; omega, f2, g3⟩
theorem ws_datas : ∀ n, Ws (pDatas n) wtDs (fun ds => ∀ d ∈ ds, In64 d.arity)
  | 0 => fun l a r hg h => by cases h; exact ⟨by simp only [wtDs]; omega, fun d h => (by cases h), hg⟩
  | n + 1 => fun l a r hg h => by
    unfold pDatas at h
    split at h
    · rename_i hs
      cases l with
      | nil => cases hs
      | cons t q =>
        obtain ⟨d, r1, h1, h⟩ := andT_ok h
        obtain ⟨ds, r2, h2, h⟩ := andT_ok h
        simp only [List.tail_cons] at h1
        obtain ⟨a1, f1, g1⟩ := ws_data _ _ _ hg.tail h1
        obtain ⟨a2, f2, g2⟩ := ws_datas n _ _ _ g1 h2
        cases h
        refine ⟨by simp only [wtDs, mu]; omega, fun d' hd => ?_, g2⟩
        rcases List.mem_cons.1 hd with rfl | hd
        · exact f1
        · exact f2 _ hd
    · cases h; exact ⟨by simp only [wtDs]; omega, fun d h => (by cases h), hg⟩
theorem ws_binds : ∀ n, Ws (pBinds n) wtBs finBs
  | 0 => fun l a r hg h => by cases h; exact ⟨by simp only [wtBs]; omega, by simp only [finBs], hg⟩
  | n + 1 => fun l a r hg h => by
    cases l with
    | nil => cases h; exact ⟨by simp only [wtBs]; omega, by simp only [finBs], hg⟩
    | cons t q =>
      unfold pBinds at h
      obtain ⟨x, r1, h1, h⟩ := andT_ok h
      obtain ⟨bs, r2, h2, h⟩ := andT_ok h
      obtain ⟨a1, f1, g1⟩ := ws_bind (ws_exp 60) _ _ _ hg h1
      obtain ⟨a2, f2, g2⟩ := ws_binds n _ _ _ g1 h2
      cases h
      exact ⟨by simp only [wtBs]; omega, by simp only [finBs]; exact ⟨f1, f2⟩, g2⟩
theorem mu_scan : ∀ f l a ts, scanF f l a = .ok ts → mu ts ≤ 37 * l.length
  | 0, _, _, _, h => by cases h; simp [mu]
  | f + 1, l, a, ts, h => by
    by_cases hk : skipN false l < l.length
    · rcases hr : readT (l.drop (skipN false l)) with e | t
      · rw [scanF_err _ _ _ hk hr] at h; cases h
      · rw [scanF_ok _ _ _ hk hr] at h
        rcases hq : scanF f ((l.drop (skipN false l)).drop t.len) (a + skipN false l + t.len) with e | us
        · rw [hq] at h; cases h
        · rw [hq] at h
          cases h
          have ih := mu_scan f _ _ _ hq
          have tl := readT_len hr
          have ht := (readT_one hr).2
          simp only [List.length_drop, List.singleton_append, mu] at *
          omega
    · rw [scanF_end _ _ _ hk] at h
      cases h
      simp [mu]
theorem parse_small {s : List UInt8} {p : Pg} (h : parseT s = .ok p) : finP p ∧ wtP p ≤ 1048576 := by
  unfold parseT at h
  split at h
  · cases h
  · rename_i ts hs
    split at h
    · rename_i q r hp
      cases h
      have hg := scan_good hs
      have hm : mu ts ≤ 606208 := by
        unfold scanAll at hs
        split at hs
        · cases hs
        · have := mu_scan _ _ _ _ hs
          omega
      unfold pProg at hp
      obtain ⟨ds, r1, h1, hp⟩ := andT_ok hp
      obtain ⟨bs, r2, h2, hp⟩ := andT_ok hp
      cases hp
      obtain ⟨a1, f1, g1⟩ := ws_datas _ _ _ _ hg h1
      obtain ⟨a2, f2, g2⟩ := ws_binds _ _ _ _ g1 h2
      exact ⟨⟨f1, f2⟩, by simp only [wtP]; omega⟩
    · cases h

end Go.Proofs.YtcbdolflgpmaoaaDoor


/- What a law over the printer and the document's reader wants of both. -/
namespace Go.Proofs.YtcbdolflgpmaoaaDoor
open Go.RowKit
set_option linter.unusedVariables false
set_option linter.unusedSimpArgs false

theorem row_len {w : World} {ok : Nat → Prop} {xs : List Value} {n : Nat} {v : Value} (h : IsRow w ok xs n v) : ∃ ga cap, v = .slice ga n cap := by
  obtain ⟨ga, cap, rfl, _⟩ := h
  exact ⟨ga, cap, rfl⟩
theorem rparse_yes {s : List UInt8} {p : Pg} (w : World) (L : Laid w) (h : parseT s = .ok p) : Calls Tryd.prog 11 #[.string (str s)] w fun e w' => ∃ gd gb cd cb, e = .returned (.tuple #[.agg #[.slice gd p.datas.length cd, .slice gb p.binds.length cb], .int .i64 0, .int .i64 0]) ∧ isPV w' (new w w') p (.agg #[.slice gd p.datas.length cd, .slice gb p.binds.length cb]) ∧ Below w.heap.size w w' := by
  have PA := rparse_any (str s) w L
  rw [str_list] at PA
  refine PA.mono ?_
  rintro e w' ⟨B, v, a, c, rfl, h3⟩
  rcases h3 with ⟨_, _, hn⟩ | ⟨rfl, rfl, p', h4, h5⟩
  · exact absurd h (hn p)
  · rw [h] at h4
    cases h4
    have h6 := h5
    obtain ⟨vd, vb, xb, rfl, ID, IB, _⟩ := h5
    obtain ⟨gd, cd, rfl⟩ := row_len ID
    obtain ⟨gb, cb, rfl⟩ := row_len IB
    exact ⟨gd, gb, cd, cb, rfl, h6, B⟩
theorem rparse_no {s : List UInt8} (w : World) (L : Laid w) (h : ∀ p, parseT s ≠ .ok p) : Calls Tryd.prog 11 #[.string (str s)] w fun e w' => ∃ a c, e = .returned (.tuple #[.agg #[nil3, nil3], .int .i64 a, .int .i64 c]) ∧ c ≠ 0 ∧ Below w.heap.size w w' := by
  have PA := rparse_any (str s) w L
  rw [str_list] at PA
  refine PA.mono ?_
  rintro e w' ⟨B, v, a, c, rfl, h3⟩
  rcases h3 with ⟨hc, rfl, hn⟩ | ⟨rfl, rfl, p', h4, h5⟩
  · exact ⟨a, c, rfl, hc, B⟩
  · exact absurd h4 (h p')
end Go.Proofs.YtcbdolflgpmaoaaDoor


/- ScopeTexts: a text that the document's reader takes is checked as the document checks it. -/
namespace Go.Proofs.YtcbdolflgpmaoaaDoor
open Go.RowKit
set_option linter.unusedVariables false
set_option linter.unusedSimpArgs false

set_option maxRecDepth 100000 in
set_option maxHeartbeats 4000000 in
theorem texts_yes {s : List UInt8} {p : Pg} (h : parseT s = .ok p) (w : World) (T : Table w) :
    Calls Tryd.prog 4 #[.string (str s)] w fun e w' => e = .returned (.bool true) ∧ Below w.heap.size w w' := by
  have RP := rparse_yes w ⟨trivial⟩ h
  obtain ⟨f, hw⟩ := parse_small h
  obtain ⟨ok, h2, _⟩ := ok_P f hw
  have HALL := Hid.mk (And.intro ok (And.intro h2 T))
  clear ok h2 f hw h T
  go_enter Tryd.func4, Tryd.ntmps4
  go_wp2_with (first
    | (go_at_call 11; refine RP.mono ?_; rintro e w1 ⟨gd, gb, cd, cb, rfl, I1, B1⟩; have K1 := B1.trans (Joins.below_le (Joins.below_alloc1 w1 (.cells #[.slice gd p.datas.length cd, .slice gb p.binds.length cb] 25)) B1.size); have X1 : Bx (w1.alloc (.cells #[.slice gd p.datas.length cd, .slice gb p.binds.length cb] 25)) w1.heap.size #[.slice gd p.datas.length cd, .slice gb p.binds.length cb] 25 := heap_alloc_new w1 _; have y0 := X1.cell 0; have y1 := X1.cell 1; have HI := Hid.mk (And.intro (pv_lift (isPV_keeps ⟨fun _ _ _ _ h => h, fun _ hg => hg.2⟩ I1) (Joins.below_alloc1 w1 (.cells #[.slice gd p.datas.length cd, .slice gb p.binds.length cb] 25))) K1); clear I1 B1 K1 X1 RP)
    | (go_at_call 3; refine (checks_any _ p _ (HALL.out.2.2.later HI.out.2) HI.out.1 HALL.out.1 HALL.out.2.1).mono ?_; rintro e w4 ⟨rfl, B4⟩; have HB4 := Hid.mk (HI.out.2.trans (Joins.below_le B4 HI.out.2.size)); clear B4))
  go_ret
  exact ⟨rfl, HB4.out⟩
set_option maxRecDepth 100000 in
set_option maxHeartbeats 4000000 in
theorem texts_no {s : List UInt8} (h : ∀ p, parseT s ≠ .ok p) (w : World) (T : Table w) :
    Calls Tryd.prog 4 #[.string (str s)] w fun e w' => e = .returned (.bool true) ∧ Below w.heap.size w w' := by
  have RP := rparse_no w ⟨trivial⟩ h
  have HAW := Hid.mk (fun (W : World) (k : Below w.heap.size w W) => awake_any W (T.later k))
  clear h T
  go_enter Tryd.func4, Tryd.ntmps4
  go_wp2_with (first
    | (go_at_call 11; refine RP.mono ?_; rintro e w1 ⟨a, c, rfl, hc, B1⟩; have K1 := B1.trans (Joins.below_le (Joins.below_alloc1 w1 (.cells #[nil3, nil3] 25)) B1.size); have HI := Hid.mk K1; clear B1 K1 RP)
    | (go_at_call 10; refine (HAW.out _ HI.out).mono ?_; rintro e w4 ⟨rfl, B4⟩; have HB4 := Hid.mk (HI.out.trans (Joins.below_le B4 HI.out.size)); clear B4))
  go_ret
  exact ⟨rfl, HB4.out⟩
theorem texts_any (s : List UInt8) (w : World) (T : Table w) : Calls Tryd.prog 4 #[.string (str s)] w fun e w' => e = .returned (.bool true) ∧ Below w.heap.size w w' := by
  rcases hp : parseT s with e | p
  · exact texts_no (fun p h => by rw [hp] at h; cases h) w T
  · exact texts_yes hp w T
end Go.Proofs.YtcbdolflgpmaoaaDoor
