/- Package scope's checker: the datas. -/
import Derived.Test.YtbajpejnnfacbaaGreatDoorPcp
import Derived.Test.YtbajpejnnfacbaaGreatDoorScr
import Derived.WalkSmall
namespace Go.Proofs.YtbajpejnnfacbaaGreatDoor
open Go.RowKit
open Go.Maps (Keyed string_keyed)
set_option linter.unusedVariables false
set_option linter.unusedSimpArgs false

theorem arityN_snoc (d : D) : ∀ (l : List D) (s : Nm), arityN (l ++ [d]) s = match arityN l s with | some r => some r | none => if d.name = s then some d.arity else none
  | [], s => by rw [List.nil_append, arityN, arityN, arityN]
  | y :: r, s => by
    rw [List.cons_append, arityN, arityN]
    by_cases e : y.name = s
    · rw [if_pos e, if_pos e]
    · rw [if_neg e, if_neg e, arityN_snoc d r s]
theorem arityN_not : ∀ (l : List D) (s : Nm), (l.map (fun d => d.name)).contains s = false → arityN l s = none
  | [], s, _ => rfl
  | y :: r, s, h => by
    rw [List.map_cons, List.contains_cons, Bool.or_eq_false_iff] at h
    rw [arityN, if_neg (fun e => by rw [e] at h; simp at h), arityN_not r s h.2]
theorem arityN_put (l : List D) (d : D) (h : (l.map (fun d => d.name)).contains d.name = false) : arityN (l ++ [d]) = updG (arityN l) d.name d.arity := by
  funext s
  rw [arityN_snoc]
  unfold updG
  by_cases e : s = d.name
  · rw [if_pos e, e, arityN_not l _ h]; simp
  · rw [if_neg e]
    cases arityN l s with
    | some r => rfl
    | none => simp only; rw [if_neg (fun z => e z.symm)]
section
variable {w w' : World} {b f m nf n : Nat} {fl : Nm → Option Int} {bd : Nm → Nat}
theorem Cs.putF {w1 : World} {D : DataW Unit} {s : Nm} {v : Int} (h : Cs w b f m nf n fl bd) (q : ∀ s : Nm, Maps.has D (.string s) = (fl s).isSome ∧ D.atKey (.string s) (.lit (.int .i64 0)) = .lit (.int .i64 ((fl s).getD 0))) (hm : Maps.IsMap D)
    (hw : w1.ownsMap Tryz.prog 9 (plainElem Tryz.prog 3) f (nf + 1) (D.put (.string s) (.lit (.int .i64 v)))) (hg : w.grownBy w1 (some f)) : Cs w1 b f m (nf + 1) n (updG fl s v) bd := by
  obtain ⟨g, hgm, q2⟩ := h.bs
  exact ⟨(hg.block b h.lt (fun e => h.ne.1 (Option.some.inj e))).trans h.blk, Mp.put q hm s v hw, ⟨g, hgm.grown hg (fun e => h.ne.2.2 (Option.some.inj e)), q2⟩, h.ne, h.tb.of_block (hg.block 0 h.tb.pos (fun e => h.pos.2.1 (Option.some.inj e))), h.pos⟩
theorem Ge.mapF {w1 : World} (hg : w.grownBy w1 (some f)) : Ge b f m w w1 := Ge.of_grown hg (fun i e => .inr (.inl (Option.some.inj e).symm))
end
set_option maxRecDepth 100000 in
set_option maxHeartbeats 8000000 in
theorem pdatas_any (ds : List D) {w : World} {b f m n : Nat} {bd : Nm → Nat} (h : Cs w b f m 0 n (arityN []) bd) (v : Value) (R : IsRow w (but3 b f m) (datC ds) ds.length v) (ok : ∀ d ∈ ds, d.name.length ≤ maxLen) :
    Calls Tryz.prog 42 #[ptr b, v] w (Res w b f m ds.length n (arityN ds) bd (datF [] ds)) := by
  obtain ⟨names, hnm⟩ : ∃ names, ds.map (fun d => d.name) = names := ⟨_, rfl⟩
  have hsm : ∀ s ∈ names, s.length ≤ maxLen := fun s hs => by
    rw [← hnm] at hs
    obtain ⟨x, hx, rfl⟩ := List.mem_map.1 hs
    exact ok x hx
  have FD := fd43_any ds names hnm v R hsm
  have kk : names.length = ds.length := by rw [← hnm, List.length_map]
  obtain ⟨F, hF⟩ : ∃ F, datF [] ds = F := ⟨_, rfl⟩
  rw [hF]
  have HF : Hid (datF (names.take 0).reverse (ds.drop 0) = F) := ⟨by rw [List.take_zero, List.drop_zero]; exact hF⟩
  have HE := Hid.mk hnm
  have HSM := Hid.mk hsm
  have HC0 := Hid.mk h
  obtain ⟨ga, cap, rfl, hc, hx⟩ := id R
  have HX := Hid.mk hx
  obtain ⟨k, hk⟩ : ∃ k, ds.length = k := ⟨_, rfl⟩
  have HK := Hid.mk hk
  have HNL : Hid (names.length = k) := ⟨kk.trans hk⟩
  rw [hk] at hc FD
  simp only [hk]
  obtain ⟨r, hr⟩ : ∃ r, firstD names = r := ⟨_, rfl⟩
  rw [hr] at FD
  have HRR := Hid.mk hr
  clear h R hnm hsm kk hF hx hk hr ok
  go_enter Tryz.func42, Tryz.ntmps42
  go_wp2_with (go_at_call 54; refine FD.mono ?_; rintro e w1 ⟨rfl, B1⟩; have HG1 := Hid.mk (Ge.of_below (b := b) (f := f) (m := m) B1); have HC1 := Hid.mk (HC0.out.later B1); clear B1 FD)
  go_loopw [12] (fun c wr => ∃ i : Nat, c = .int .i64 i ∧ i ≤ k ∧ Hid (Ge b f m w wr) ∧ Hid (Cs wr b f m i n (arityN (ds.take i)) bd) ∧ Hid (datF (names.take i).reverse (ds.drop i) = F) ∧ Hid (noD names i)) (fun c _ => k - (intOf c).toNat)
  case atStart => exact ⟨0, rfl, Nat.zero_le _, HG1, ⟨by rw [List.take_zero]; exact HC1.out⟩, HF, ⟨noD_zero _⟩⟩
  case round =>
    obtain ⟨i, rfl, hi, GW, CW, HK1, HND⟩ := hrel
    by_cases hlt : i < k
    · have kl : i < ds.length := by rw [HK.out]; exact hlt
      have knl : i < names.length := by rw [HNL.out]; exact hlt
      obtain ⟨p, off, rfl, hp, hx⟩ := HX.out (by rw [HK.out]; omega)
      obtain ⟨g0, g1, g2⟩ := datC_get ds i kl
      have edn : (ds[i]'kl).name = names[i]'knl := by simp only [← HE.out, List.getElem_map]
      have bl : ∀ (j : Nat) (u : Value), (datC ds)[j]? = some u → wr.cell? ⟨p, off + j, none⟩ = some u := fun j u hj => GW.out.keeps.cell p _ _ hp (hx j u hj)
      rw [edn] at g0
      have c0 := bl _ _ g0
      have c1 := bl _ _ g1
      have c2 := bl _ _ g2
      rw [← Nat.add_assoc] at c1 c2
      have hst := HK1.out
      rw [List.drop_eq_getElem_cons kl, datF, edn, List.contains_reverse] at hst
      have hfd := fd_at knl HND.out
      rw [HRR.out] at hfd
      have hs : (names[i]'knl).length ≤ maxLen := HSM.out _ (List.getElem_mem knl)
      have HTK : Hid ((names[i]'knl) :: (names.take i).reverse = (names.take (i + 1)).reverse) := ⟨by rw [List.take_succ_eq_append_getElem knl, List.reverse_append]; rfl⟩
      have HNS := Hid.mk (fun q => noD_succ HND.out knl q)
      have HAP : Hid ((names.take i).contains (names[i]'knl) = false → arityN (ds.take (i + 1)) = updG (arityN (ds.take i)) (names[i]'knl) (ds[i]'kl).arity) := ⟨fun q => by
        rw [List.take_succ_eq_append_getElem kl, ← edn]
        exact arityN_put _ _ (by rw [List.map_take, HE.out, edn]; exact q)⟩
      have hlt' : (i : Int) < k := by omega
      clear hx g0 g1 g2 edn bl
      generalize (ds[i]'kl).arity = da at *
      generalize (ds[i]'kl).at' = dt at *
      generalize names[i]'knl = nm at *
      have GW1 : Hid (Ge b f m w (wr.alloc (.cells #[.string (str nm), .int .i64 da, .int .i64 dt] 112))) := ⟨GW.out.alloc _⟩
      have CW1 := Hid.mk (CW.out.alloc (.cells #[.string (str nm), .int .i64 da, .int .i64 dt] 112))
      have XW : Bx (wr.alloc (.cells #[.string (str nm), .int .i64 da, .int .i64 dt] 112)) wr.heap.size #[.string (str nm), .int .i64 da, .int .i64 dt] 112 := heap_alloc_new wr _
      have y0 := XW.cell 0
      have y1 := XW.cell 1
      have y2 := XW.cell 2
      cases t : (names.take i).contains nm
      · rw [t, if_neg (by simp)] at hst
        rw [t] at hfd
        by_cases z : da < 0 ∨ 8 < da
        · rw [if_pos z] at hst
          have HT := Hid.mk hst
          clear hst t XW HNS HTK HAP
          by_cases z1 : da < 0
          · clear z
            go_wp2_with (go_at_call 45; refine (pfail_any CW1.out dt _).mono ?_; rintro e w8 ⟨rfl, G8, C8⟩; have HE2 := Hid.mk (And.intro (GW1.out.trans G8) C8); clear G8 C8)
            go_ret
            rw [← HT.out]
            exact ⟨rfl, HE2.out.1, HE2.out.2⟩
          · have z2 : 8 < da := by omega
            clear z
            go_wp2_with (go_at_call 45; refine (pfail_any CW1.out dt _).mono ?_; rintro e w8 ⟨rfl, G8, C8⟩; have HE2 := Hid.mk (And.intro (GW1.out.trans G8) C8); clear G8 C8)
            go_ret
            rw [← HT.out]
            exact ⟨rfl, HE2.out.1, HE2.out.2⟩
        · rw [if_neg z] at hst
          have z1 : ¬ da < 0 := by omega
          have z2 : ¬ 8 < da := by omega
          have HN1 := Hid.mk (HNS.out t)
          have hap := HAP.out t
          rw [HTK.out] at hst
          have HT := Hid.mk hst
          have HA2 := Hid.mk hap
          have x0 : (wr.alloc (.cells #[.string (str nm), .int .i64 da, .int .i64 dt] 112)).cell? ⟨b, 0, none⟩ = some (.map (some f)) := CW1.out.cell 0
          obtain ⟨D, hD, q⟩ := CW1.out.fs
          have HQ := Hid.mk q
          have HD := Hid.mk hD
          have HX1 := Hid.mk XW
          have hDd := hD.drew
          have nx := CW.out.new (Nat.le_refl _)
          have wfd : (Lit.int .i64 da).wf = true := WalkArith.wf_i64 (by omega)
          clear hst t XW HNS HTK HAP hap z q
          obtain ⟨w1, hrun, hown1, hgrow1⟩ := hDd.update law9 Tryz.underlying70 (show i < maxLen by unfold maxLen; omega) (key_str hs) (plainElem_int Tryz.underlying3 wfd)
          go_wp2
          go_region
          all_goals go_wp2
          all_goals (have C1 : Cs w1 b f m (i + 1) n (arityN (ds.take (i + 1))) bd := by rw [HA2.out]; exact CW1.out.drew.putF HQ.out HD.out.isMap hown1 hgrow1)
          all_goals exact ⟨⟨i + 1, by go_num, by omega, ⟨GW1.out.drew.trans (Ge.mapF hgrow1)⟩, ⟨C1⟩, HT, HN1⟩, by simp [intOf]; omega⟩
      · rw [t, if_pos rfl] at hst
        rw [t] at hfd
        have HT := Hid.mk hst
        clear hst t XW HNS HTK HAP
        go_wp2_with (go_at_call 45; refine (pfail_any CW1.out dt _).mono ?_; rintro e w8 ⟨rfl, G8, C8⟩; have HE2 := Hid.mk (And.intro (GW1.out.trans G8) C8); clear G8 C8)
        go_ret
        rw [← HT.out]
        exact ⟨rfl, HE2.out.1, HE2.out.2⟩
    · obtain rfl : i = k := by omega
      have eF : F = none := by
        have := HK1.out
        rw [List.drop_eq_nil_of_le (by rw [HK.out]; omega), datF] at this
        exact this.symm
      have HEF := Hid.mk eF
      have C3 : Hid (Cs wr b f m i n (arityN ds) bd) := ⟨by have := CW.out; rwa [List.take_of_length_le (by rw [HK.out]; omega)] at this⟩
      clear HK1 CW eF HND
      go_wp2
      go_ret
      rw [HEF.out]
      exact ⟨rfl, GW.out, C3.out⟩
end Go.Proofs.YtbajpejnnfacbaaGreatDoor

/- nothing is left of it here -/

/- The document's check, whole. -/
namespace Go.Proofs.YtbajpejnnfacbaaGreatDoor
open Go.RowKit
set_option linter.unusedVariables false
set_option linter.unusedSimpArgs false

/-- the datas, each asked both things -/
def datQ (ahead : List Nm) : List D → Flt
  | [] => none
  | d :: r => orF (orF (if ahead.contains d.name = true then some (d.at', 30) else none) (if d.arity < 0 ∨ 8 < d.arity then some (d.at', 33) else none)) (datQ (ahead ++ [d.name]) r)
theorem datQ_F : ∀ (l : List D) (p q : List Nm), (∀ y, p.contains y = q.contains y) → datQ p l = datF q l
  | [], _, _, _ => rfl
  | d :: r, p, q, h => by
    have ih := datQ_F r (p ++ [d.name]) (d.name :: q) (fun y => by rw [has_snoc, List.contains_cons, h y]; cases q.contains y <;> cases (y == d.name) <;> rfl)
    rw [datQ, datF, h d.name, ih]
    by_cases g : q.contains d.name = true
    · rw [if_pos g, if_pos g]; rfl
    · rw [if_neg g, if_neg g, orF_left]
      by_cases z : d.arity < 0 ∨ 8 < d.arity
      · rw [if_pos z, if_pos z]; rfl
      · rw [if_neg z, if_neg z]; rfl
theorem twice_step (f : Flt) (c e : Bool) (t : Int) : orF (orF f (if c = true then some (t, 30) else none)) (if e = true then some (t, 30) else none) = orF f (if (c || e) = true then some (t, 30) else none) := by
  cases f <;> cases c <;> cases e <;> rfl
end Go.Proofs.YtbajpejnnfacbaaGreatDoor

/- Package scope: Check and Arity. -/
namespace Go.Proofs.YtbajpejnnfacbaaGreatDoor
open Go.RowKit
open Go.Maps (Keyed string_keyed)
set_option linter.unusedVariables false
set_option linter.unusedSimpArgs false

abbrev zro : Nm → Nat := fun _ => 0
theorem scD_zero (l : List Nm) : scD (plus zro l) = fun x => l.contains x := by
  rw [scD_plus]; funext y; simp [scD, zro]
/-- a program whose names are no longer than any text -/
def okPg (ds : List D) (bs : List B) : Prop := (∀ d ∈ ds, d.name.length ≤ maxLen) ∧ okBs bs
set_option maxRecDepth 100000 in
set_option maxHeartbeats 8000000 in
theorem pprogram_any (ds : List D) (bs : List B) {w : World} {b f m : Nat} (h : Cs w b f m 0 0 (arityN []) zro) (gd gb : Option Addr) (ld lb cd cb : Nat) (xb : List Value) (ed : ds.length = ld) (eb : bs.length = lb)
    (RD : IsRow w (but3 b f m) (datC ds) ds.length (.slice gd ds.length cd)) (RB : IsRow w (but3 b f m) xb bs.length (.slice gb bs.length cb)) (IB : isBs w (but3 b f m) bs xb) (ok : okPg ds bs) (hn : bs.length + 2 * nmBs bs ≤ 1000000000) :
    Calls Tryz.prog 36 #[ptr b, .agg #[.slice gd ld cd, .slice gb lb cb]] w (Res w b f m ds.length (bs.length + 2 * nmBs bs) (arityN ds) (plus zro (bs.map nameB')) (checkP prN tA ⟨ds, bs⟩)) := by
  have K0 := Joins.below_alloc1 w (.cells #[.slice gd ld cd, .slice gb lb cb] 25)
  have X0 : Bx (w.alloc (.cells #[.slice gd ld cd, .slice gb lb cb] 25)) w.heap.size #[.slice gd ld cd, .slice gb lb cb] 25 := heap_alloc_new w _
  have G0 : Ge b f m w _ := Ge.of_below K0
  have C0 := h.later K0
  have nx := h.new (Nat.le_refl _)
  have y0 := X0.cell 0
  have y1 := X0.cell 1
  have GW := Hid.mk G0
  have XW := Hid.mk X0
  have DA := pdatas_any ds C0 _ (RD.keeps G0.keeps) ok.1
  have HGR := Hid.mk (fun (W : World) (k : Ge b f m w W) (CC : Cs W b f m ds.length 0 (arityN ds) zro) => group_any bs (PBs_all bs) CC _ xb (RB.keeps k.keeps) (isBs_keeps k.keeps _ _ IB) ok.2 (by omega))
  have HHS := Hid.mk (fun (W : World) (CC : Cs W b f m ds.length (bs.length + 2 * nmBs bs) (arityN ds) (plus zro (bs.map nameB'))) => phas_any CC mainN (by unfold maxLen; decide))
  rw [show str mainN = (⟨#[109, 97, 105, 110]⟩ : ByteArray) from rfl, show decide (0 < plus zro (bs.map nameB') mainN) = (bs.map nameB').contains mainN from congrFun (scD_zero _) mainN] at HHS
  have eP : checkP prN tA ⟨ds, bs⟩ = orF (datF [] ds) (orF (orF (namF [] bs) (chBs ds prN tA (scD (plus zro (bs.map nameB'))) bs)) (if (bs.map nameB').contains mainN then none else some (0, 36))) := by
    rw [checkP, scD_zero, orF_assoc]
  rw [eP]
  have e1 : 0 + bs.length + 2 * nmBs bs = bs.length + 2 * nmBs bs := by omega
  rw [e1] at HGR
  rw [ed] at DA HGR HHS ⊢
  simp only [eb] at HGR HHS ⊢
  generalize orF (namF [] bs) (chBs ds prN tA (scD (plus zro (bs.map nameB'))) bs) = F2 at *
  generalize datF [] ds = F1 at *
  generalize nmBs bs = nb at *
  generalize plus zro (bs.map nameB') = bd at *
  generalize (bs.map nameB').contains mainN = q at *
  clear h C0 X0 K0 G0 RD RB IB ok hn eP ed eb e1
  cases F1 with
  | some r =>
    obtain ⟨ra, rc⟩ := r
    rw [orF_some]
    go_enter Tryz.func36, Tryz.ntmps36
    go_wp2_with (go_at_call 42; refine DA.mono ?_; intro e w8 R8; obtain ⟨rfl, G8, C8⟩ := R8.no'; have HE := Hid.mk (And.intro (GW.out.trans G8) C8); clear R8 G8 C8)
    go_ret
    exact ⟨rfl, HE.out.1, HE.out.2⟩
  | none =>
    rw [orF_left]
    cases F2 with
    | some r =>
      obtain ⟨ra, rc⟩ := r
      rw [orF_some]
      go_enter Tryz.func36, Tryz.ntmps36
      go_wp2_with (first
        | (go_at_call 43; refine (HGR.out _ GW1.out CW1.out).mono ?_; intro e w9 R9; obtain ⟨rfl, G9, C9⟩ := R9.no'; have HE := Hid.mk (And.intro (GW1.out.trans G9) C9); clear R9 G9 C9)
        | (go_at_call 42; refine DA.mono ?_; intro e w8 R8; obtain ⟨rfl, G8, C8⟩ := R8.yes'; have GW1 := Hid.mk (GW.out.trans G8); have CW1 := Hid.mk C8; replace XW := Hid.mk (XW.out.ge G8 nx); have u1 := XW.out.cell 1; clear R8 G8 C8))
      go_ret
      exact ⟨rfl, HE.out.1, HE.out.2⟩
    | none =>
      rw [orF_left]
      cases q with
      | true =>
        rw [if_pos rfl]
        go_enter Tryz.func36, Tryz.ntmps36
        go_wp2_with (first
          | (go_at_call 44; refine (HHS.out _ CW2.out).mono ?_; rintro e w10 ⟨rfl, rfl⟩)
          | (go_at_call 43; refine (HGR.out _ GW1.out CW1.out).mono ?_; intro e w9 R9; obtain ⟨rfl, G9, C9⟩ := R9.yes'; have GW2 := Hid.mk (GW1.out.trans G9); have CW2 := Hid.mk C9; clear R9 G9 C9)
          | (go_at_call 42; refine DA.mono ?_; intro e w8 R8; obtain ⟨rfl, G8, C8⟩ := R8.yes'; have GW1 := Hid.mk (GW.out.trans G8); have CW1 := Hid.mk C8; replace XW := Hid.mk (XW.out.ge G8 nx); have u1 := XW.out.cell 1; clear R8 G8 C8))
        go_ret
        exact ⟨rfl, GW2.out, CW2.out⟩
      | false =>
        rw [if_neg (by simp)]
        go_enter Tryz.func36, Tryz.ntmps36
        go_wp2_with (first
          | (go_at_call 45; refine (pfail_any CW2.out 0 _).mono ?_; rintro e w11 ⟨rfl, G11, C11⟩; have HE := Hid.mk (And.intro (GW2.out.trans G11) C11); clear G11 C11)
          | (go_at_call 44; refine (HHS.out _ CW2.out).mono ?_; rintro e w10 ⟨rfl, rfl⟩)
          | (go_at_call 43; refine (HGR.out _ GW1.out CW1.out).mono ?_; intro e w9 R9; obtain ⟨rfl, G9, C9⟩ := R9.yes'; have GW2 := Hid.mk (GW1.out.trans G9); have CW2 := Hid.mk C9; clear R9 G9 C9)
          | (go_at_call 42; refine DA.mono ?_; intro e w8 R8; obtain ⟨rfl, G8, C8⟩ := R8.yes'; have GW1 := Hid.mk (GW.out.trans G8); have CW1 := Hid.mk C8; replace XW := Hid.mk (XW.out.ge G8 nx); have u1 := XW.out.cell 1; clear R8 G8 C8))
        go_ret
        exact ⟨rfl, HE.out.1, HE.out.2⟩
end Go.Proofs.YtbajpejnnfacbaaGreatDoor
