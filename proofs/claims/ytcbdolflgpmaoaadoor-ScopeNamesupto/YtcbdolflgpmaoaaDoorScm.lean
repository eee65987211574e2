/- The document's check: binds within an expression, and what follows them. -/
import Derived.Test.YtcbdolflgpmaoaaDoorScl
namespace Go.Proofs.YtcbdolflgpmaoaaDoor
open Go.RowKit
set_option linter.unusedVariables false
set_option linter.unusedSimpArgs false

theorem Nw.form {w : World} {z : Nat} {v : Value} {l : List Nm} (h : Nw w z v l) : ∃ ga cap, v = .slice ga l.length cap := by
  obtain ⟨ga, cap, e, _⟩ := RowS.le h
  exact ⟨ga, cap, e⟩
theorem Nw.fr {w w' : World} {z b : Nat} {v : Value} {l : List Nm} (h : Nw w z v l) (F : Fr b w w') (hz : b < z) : Nw w' z v l := by
  rcases h with h | h
  · exact .inl h
  · exact .inr (own_fr h F hz)
theorem rowC {w : World} {ok : Nat → Prop} {xs : List Value} {n c : Nat} {ga : Option Addr} (h : IsRow w ok xs n (.slice ga n c)) (hn : 0 < n) : ∃ g off, ga = some ⟨g, off, none⟩ ∧ ok g ∧ ∀ j u, xs[j]? = some u → w.cell? ⟨g, off + j, none⟩ = some u := by
  obtain ⟨ga', c', e, _, hx⟩ := h
  simp only [Value.slice.injEq] at e
  obtain ⟨rfl, _, rfl⟩ := e
  exact hx hn
theorem isB_at {w : World} {ok : Nat → Prop} {x : B} {d : List Value} (h : isB w ok x d) : d[1]? = some (.int .i64 (atB x)) := by
  obtain ⟨n, a, l, e⟩ := x
  simp only [isB] at h
  obtain ⟨va, d', rfl, _, _⟩ := h
  rfl
theorem nmBs_le : ∀ (l : List B) (j : Nat) (h : j < l.length), nmB (l[j]'h) ≤ nmBs l
  | x :: r, 0, _ => by rw [nmBs]; simp
  | x :: r, j + 1, h => by
    have := nmBs_le r j (by simpa using h)
    rw [nmBs]
    simp only [List.getElem_cons_succ]
    omega
theorem nmEs_le : ∀ (l : List E) (j : Nat) (h : j < l.length), nmE (l[j]'h) ≤ nmEs l
  | x :: r, 0, _ => by rw [nmEs]; simp
  | x :: r, j + 1, h => by
    have := nmEs_le r j (by simpa using h)
    rw [nmEs]
    simp only [List.getElem_cons_succ]
    omega
theorem chK_get {ds : List D} {sc : Nm → Bool} : ∀ (l : List E) (h : 0 < l.length), chK ds prN tA sc l = chE ds prN tA sc (l[0]'h)
  | x :: r, _ => by rw [chK]; rfl
set_option maxHeartbeats 8000000 in
theorem let_some (k a m : Int) (n : Nm) (g4 g5 g6 g7 : Option Addr) (l4 l5 l6 l7 c4 c5 c6 c7 : Nat) (bs : List B) (ks : List E) (w : World) (b : Nat) (vd vb vi : Value) (ds : List D) (is : List Nm) (xb xk : List Value) (HB : ∀ x ∈ bs, BOK x) (HK : ∀ x ∈ ks, EOK x)
    (h : Ck w b vd vb none) (R : IsRow w (but b) (datC ds) ds.length vd) (IR : IsRow w (but b) (strC is) is.length vi)
    (IB : IsRow w (but b) xb bs.length (.slice g5 l5 c5)) (IBS : isBs w (but b) bs xb) (IK : IsRow w (but b) xk ks.length (.slice g6 l6 c6)) (IKS : isEs w (but b) ks xk) (z5 : l5 ≠ 0) (z6 : l6 ≠ 0) (e5 : bs.length = l5) (e6 : ks.length = l6) (hw : is.length + bs.length + nmBs bs + nmEs ks ≤ 1000000000) :
    Calls Tryd.prog 53 #[ptr b, .agg #[.int .i64 k, .int .i64 a, .string (str n), .int .i64 m, .slice g4 l4 c4, .slice g5 l5 c5, .slice g6 l6 c6, .slice g7 l7 c7], vi] w fun e w' => e = done ∧ Fr b w w' ∧ Ck w' b vd vb (orF (namF [] bs) (orF (chBs ds prN tA (fun x => is.contains x || (bs.map nameB').contains x) bs) (chK ds prN tA (fun x => is.contains x || (bs.map nameB').contains x) ks))) := by
  have lt := h.lt
  have ne : w.heap.size ≠ b := by omega
  have CW : Hid (Ck (w.alloc (.cells #[.int .i64 k, .int .i64 a, .string (str n), .int .i64 m, .slice g4 l4 c4, .slice g5 l5 c5, .slice g6 l6 c6, .slice g7 l7 c7] 45)) b vd vb none) := ⟨h.fr_alloc _⟩
  have XW : Hid (Bx (w.alloc (.cells #[.int .i64 k, .int .i64 a, .string (str n), .int .i64 m, .slice g4 l4 c4, .slice g5 l5 c5, .slice g6 l6 c6, .slice g7 l7 c7] 45)) w.heap.size #[.int .i64 k, .int .i64 a, .string (str n), .int .i64 m, .slice g4 l4 c4, .slice g5 l5 c5, .slice g6 l6 c6, .slice g7 l7 c7] 45) := ⟨heap_alloc_new w _⟩
  have FW : Hid (Fr b w (w.alloc (.cells #[.int .i64 k, .int .i64 a, .string (str n), .int .i64 m, .slice g4 l4 c4, .slice g5 l5 c5, .slice g6 l6 c6, .slice g7 l7 c7] 45))) := ⟨(Fr.refl b w).alloc _⟩
  have HALL : Hid ((∀ x ∈ bs, BOK x) ∧ (∀ x ∈ ks, EOK x) ∧ IsRow w (but b) (datC ds) ds.length vd ∧ IsRow w (but b) (strC is) is.length vi ∧ IsRow w (but b) xb bs.length (.slice g5 l5 c5) ∧ isBs w (but b) bs xb ∧ IsRow w (but b) xk ks.length (.slice g6 l6 c6) ∧ isEs w (but b) ks xk ∧ bs.length = l5 ∧ ks.length = l6) := ⟨HB, HK, R, IR, IB, IBS, IK, IKS, e5, e6⟩
  have NM := bnames_any (w := w.alloc (.cells #[.int .i64 k, .int .i64 a, .string (str n), .int .i64 m, .slice g4 l4 c4, .slice g5 l5 c5, .slice g6 l6 c6, .slice g7 l7 c7] 45)) bs (.slice g5 l5 c5) xb (fr_alloc_row IB) (isBs_keeps (keeps_below (Joins.below_alloc1 w _) (fun _ h => h)) _ _ IBS)
  obtain ⟨F, hF⟩ : ∃ F, orF (namF [] bs) (orF (chBs ds prN tA (fun x => is.contains x || (bs.map nameB').contains x) bs) (chK ds prN tA (fun x => is.contains x || (bs.map nameB').contains x) ks)) = F := ⟨_, rfl⟩
  rw [hF]
  have HF := Hid.mk hF
  have e5' : ((l5 : Int) == 0) = false := by simp; omega
  have e6' : ((l6 : Int) == 0) = false := by simp; omega
  have HLE : Hid (is.length + l5 + nmBs bs + nmEs ks ≤ 1000000000) := ⟨by rw [← e5]; exact hw⟩
  have hl5 : l5 ≤ 1000000000 := by omega
  clear hF HB HK R IR IB IBS IK IKS e5 e6 z5 z6 h hw
  go_enter Tryd.func53, Tryd.ntmps53
  go_wp2_with (first
    | (go_at_call 18; refine NM.mono ?_; rintro e w2 ⟨own, rfl, B8, NW⟩; obtain ⟨go, CO, rfl⟩ := NW.form; have HNW := Hid.mk NW; replace HNW : Hid (Nw w2 _ (.slice go l5 CO) (bs.map nameB')) := (by have := HNW; rw [List.length_map, HALL.out.2.2.2.2.2.2.2.2.1] at this; exact this); rw [List.length_map, HALL.out.2.2.2.2.2.2.2.2.1]; replace FW := Hid.mk (FW.out.trans (Fr.of_below B8)); replace CW := Hid.mk (CW.out.later B8); replace XW : Hid (Bx w2 w.heap.size #[.int .i64 k, .int .i64 a, .string (str n), .int .i64 m, .slice g4 l4 c4, .slice g5 l5 c5, .slice g6 l6 c6, .slice g7 l7 c7] 45) := Hid.mk (XW.out.later B8); have x1 : w2.cell? ⟨w.heap.size, 1, none⟩ = some (.int .i64 a) := XW.out.cell 1; have x5 : w2.cell? ⟨w.heap.size, 5, none⟩ = some (.slice g5 l5 c5) := XW.out.cell 5; have x6 : w2.cell? ⟨w.heap.size, 6, none⟩ = some (.slice g6 l6 c6) := XW.out.cell 6; clear B8; clear NW NM))
  have lz : b < (w.alloc (.cells #[.int .i64 k, .int .i64 a, .string (str n), .int .i64 m, .slice g4 l4 c4, .slice g5 l5 c5, .slice g6 l6 c6, .slice g7 l7 c7] 45)).heap.size := by simp; omega
  have XLT : w.heap.size < (w.alloc (.cells #[.int .i64 k, .int .i64 a, .string (str n), .int .i64 m, .slice g4 l4 c4, .slice g5 l5 c5, .slice g6 l6 c6, .slice g7 l7 c7] 45)).heap.size := by simp
  generalize (w.alloc (.cells #[.int .i64 k, .int .i64 a, .string (str n), .int .i64 m, .slice g4 l4 c4, .slice g5 l5 c5, .slice g6 l6 c6, .slice g7 l7 c7] 45)).heap.size = Z at *
  obtain ⟨own, hown⟩ : ∃ own, bs.map nameB' = own := ⟨_, rfl⟩
  have HOWN := Hid.mk hown
  rw [hown] at HNW HF
  have HN0 : Hid (orF none (namQ (own.take 0) (bs.drop 0)) = namF [] bs) := ⟨by rw [List.take_zero, List.drop_zero, orF_left]; exact namQ_F bs [] [] (fun _ => rfl)⟩
  have LO : own.length = l5 := by rw [← hown, List.length_map]; exact HALL.out.2.2.2.2.2.2.2.2.1
  have HLO := Hid.mk LO
  clear hown LO
  obtain ⟨F1, hF1⟩ : ∃ F1, namF [] bs = F1 := ⟨_, rfl⟩
  rw [hF1] at HN0 HF
  clear hF1
  go_loopw [7] (fun c wr => ∃ (j : Nat) (fk : Flt), c = .int .i64 j ∧ j ≤ l5 ∧ Ck wr b vd vb fk ∧ Hid (orF fk (namQ (own.take j) (bs.drop j)) = F1) ∧ Fr b w wr ∧ Bx wr w.heap.size #[.int .i64 k, .int .i64 a, .string (str n), .int .i64 m, .slice g4 l4 c4, .slice g5 l5 c5, .slice g6 l6 c6, .slice g7 l7 c7] 45 ∧ Nw wr Z (.slice go l5 CO) own) (fun c _ => l5 - (intOf c).toNat)
  case atStart => exact ⟨0, none, rfl, Nat.zero_le _, CW.out, HN0, FW.out, XW.out, HNW.out⟩
  case round =>
    clear CW FW XW HNW HN0
    obtain ⟨j, fk, rfl, hj, CW, HK, FW, XW, NW⟩ := hrel
    replace CW := Hid.mk CW
    replace FW := Hid.mk FW
    replace XW := Hid.mk XW
    replace NW := Hid.mk NW
    have x1 : wr.cell? ⟨w.heap.size, 1, none⟩ = some (.int .i64 a) := XW.out.cell 1
    have x5 : wr.cell? ⟨w.heap.size, 5, none⟩ = some (.slice g5 l5 c5) := XW.out.cell 5
    have x6 : wr.cell? ⟨w.heap.size, 6, none⟩ = some (.slice g6 l6 c6) := XW.out.cell 6
    by_cases hlt : j < l5
    · have kl : j < bs.length := by rw [HALL.out.2.2.2.2.2.2.2.2.1]; exact hlt
      have ko : j < own.length := by rw [HLO.out]; exact hlt
      have enm : own[j]'ko = nameB' (bs[j]'kl) := by simp only [← HOWN.out, List.getElem_map]
      have NR := NW.out.row (ok := but b) (by rw [HLO.out]; exact hl5) (fun g hg => by show g ≠ b; omega)
      rw [HLO.out] at NR
      obtain ⟨go1, go2, rfl, _, hsrc⟩ := rowC NR (by omega)
      have co := hsrc j _ (strC_get own j ko)
      rw [enm] at co
      obtain ⟨p1, p2, rfl, hp, hxb⟩ := rowC (show IsRow w (but b) xb l5 (.slice g5 l5 c5) by have := HALL.out.2.2.2.2.1; rwa [HALL.out.2.2.2.2.2.2.2.2.1] at this) (by omega)
      obtain ⟨d, hd, hg⟩ := isBs_get bs xb HALL.out.2.2.2.2.2.1 j kl
      have ca := hxb _ _ (hg 1 _ (isB_at hd))
      rw [← Nat.add_assoc] at ca
      have HCA : Hid (∀ W, Fr b w W → W.cell? ⟨p1, p2 + j * 11 + 1, none⟩ = some (.int .i64 (atB (bs[j]'kl)))) := ⟨fun W F => (keeps_fr F).cell p1 _ _ hp ca⟩
      have ca1 := HCA.out _ FW.out
      have HS : ∀ W, Nw W Z (.slice (some ⟨go1, go2, none⟩) l5 CO) own → Calls Tryd.prog 19 #[.slice (some ⟨go1, go2, none⟩) j CO, .string (str (nameB' (bs[j]'kl)))] W fun e w' => e = .returned (.bool ((own.take j).contains (nameB' (bs[j]'kl)))) ∧ w' = W := fun W NW =>
        has_any (ok := but b) (own.take j) _ (take_row (ls := own) (by have := NW.row (ok := but b) (by rw [HLO.out]; exact hl5) (fun g hg => by show g ≠ b; omega); rw [HLO.out]; rw [HLO.out] at this; exact this) (by omega)) _
      have HCO : Hid (∀ W, Nw W Z (.slice (some ⟨go1, go2, none⟩) l5 CO) own → W.cell? ⟨go1, go2 + j, none⟩ = some (.string (str (nameB' (bs[j]'kl))))) := ⟨fun W NW => by
        have NR := NW.row (ok := but b) (by rw [HLO.out]; exact hl5) (fun g hg => by show g ≠ b; omega)
        rw [HLO.out] at NR
        obtain ⟨q1, q2, e, _, hs⟩ := rowC NR (by omega)
        simp only [Option.some.injEq, Addr.mk.injEq] at e
        obtain ⟨rfl, rfl, _⟩ := e
        have := hs j _ (strC_get own j ko)
        rwa [enm] at this⟩
      have hst := HK.out
      rw [List.drop_eq_getElem_cons kl, namQ_cons, show own.take j ++ [nameB' (bs[j]'kl)] = own.take (j + 1) by rw [← enm, List.take_append_getElem ko], ← orF_assoc, ← orF_assoc] at hst
      have HST := Hid.mk hst
      have hlt' : (j : Int) < l5 := by omega
      have jc : ((j : Nat) : Int) ≤ CO := by obtain ⟨_, _, e, hc, _⟩ := NR; simp only [Value.slice.injEq] at e; omega
      generalize (own.take j).contains (nameB' (bs[j]'kl)) = hq at HS HST
      generalize atB (bs[j]'kl) = at1 at ca1 HCA HST
      clear hst hxb hg hd hsrc NR HK enm ca
      cases hq
      · rw [if_neg (show ¬ (false = true) by simp), orF_nil] at HST
        by_cases z : nameB' (bs[j]'kl) = []
        · have z1 : (str (nameB' (bs[j]'kl))).toList = [] := by rw [z, ByteArray.toList_eq]; rfl
          rw [if_pos z] at HST
          generalize str (nameB' (bs[j]'kl)) = nm at co z1 HS HCO
          clear z
          go_wp2_with (first
            | (go_at_call 17; refine (fail_any CW.out at1 _).mono ?_; rintro e w8 ⟨rfl, F8, C8⟩; replace FW : Hid (Fr b w w8) := ⟨FW.out.trans F8⟩; replace CW := Hid.mk C8; replace XW : Hid (Bx w8 w.heap.size #[.int .i64 k, .int .i64 a, .string (str n), .int .i64 m, .slice g4 l4 c4, .slice (some ⟨p1, p2, none⟩) l5 c5, .slice g6 l6 c6, .slice g7 l7 c7] 45) := ⟨XW.out.fr F8 ne⟩; replace NW : Hid (Nw w8 Z (.slice (some ⟨go1, go2, none⟩) l5 CO) own) := ⟨NW.out.fr F8 lz⟩; have x1 : w8.cell? ⟨w.heap.size, 1, none⟩ = some (.int .i64 a) := XW.out.cell 1; have x5 : w8.cell? ⟨w.heap.size, 5, none⟩ = some (.slice (some ⟨p1, p2, none⟩) l5 c5) := XW.out.cell 5; have x6 : w8.cell? ⟨w.heap.size, 6, none⟩ = some (.slice g6 l6 c6) := XW.out.cell 6; have co8 := HCO.out _ NW.out; have ca8 := HCA.out _ FW.out; clear F8 C8))
          go_region_held3 (fun w' => w'.cell? ⟨go1, go2 + j, none⟩ = some (.string nm)) (go_keep) (first
            | (go_at_call 19; refine (HS _ (NW.out.below (Below.refl _ _).drew)).mono ?_; rintro e w9 ⟨rfl, rfl⟩; replace FW : Hid (Fr b w w8.drew) := ⟨FW.out.drew⟩; replace CW := Hid.mk CW.out.drew; replace XW : Hid (Bx w8.drew w.heap.size #[.int .i64 k, .int .i64 a, .string (str n), .int .i64 m, .slice g4 l4 c4, .slice (some ⟨p1, p2, none⟩) l5 c5, .slice g6 l6 c6, .slice g7 l7 c7] 45) := ⟨XW.out⟩; replace NW : Hid (Nw w8.drew Z (.slice (some ⟨go1, go2, none⟩) l5 CO) own) := ⟨NW.out.below (Below.refl _ _).drew⟩; have x1 : w8.drew.cell? ⟨w.heap.size, 1, none⟩ = some (.int .i64 a) := XW.out.cell 1; have x5 : w8.drew.cell? ⟨w.heap.size, 5, none⟩ = some (.slice (some ⟨p1, p2, none⟩) l5 c5) := XW.out.cell 5; have x6 : w8.drew.cell? ⟨w.heap.size, 6, none⟩ = some (.slice g6 l6 c6) := XW.out.cell 6; have ca9 := HCA.out _ FW.out))
          all_goals go_wp2_with (first
            | (go_at_call 17; refine (fail_any CW.out at1 _).mono ?_; rintro e w8 ⟨rfl, F8, C8⟩; replace FW : Hid (Fr b w w8) := ⟨FW.out.trans F8⟩; replace CW := Hid.mk C8; replace XW : Hid (Bx w8 w.heap.size #[.int .i64 k, .int .i64 a, .string (str n), .int .i64 m, .slice g4 l4 c4, .slice (some ⟨p1, p2, none⟩) l5 c5, .slice g6 l6 c6, .slice g7 l7 c7] 45) := ⟨XW.out.fr F8 ne⟩; replace NW : Hid (Nw w8 Z (.slice (some ⟨go1, go2, none⟩) l5 CO) own) := ⟨NW.out.fr F8 lz⟩; have x1 : w8.cell? ⟨w.heap.size, 1, none⟩ = some (.int .i64 a) := XW.out.cell 1; have x5 : w8.cell? ⟨w.heap.size, 5, none⟩ = some (.slice (some ⟨p1, p2, none⟩) l5 c5) := XW.out.cell 5; have x6 : w8.cell? ⟨w.heap.size, 6, none⟩ = some (.slice g6 l6 c6) := XW.out.cell 6; have co8 := HCO.out _ NW.out; have ca8 := HCA.out _ FW.out; clear F8 C8))
          all_goals exact ⟨⟨j + 1, _, by go_num, by omega, CW.out, HST, FW.out, XW.out, NW.out⟩, by simp [intOf]; omega⟩
        · have z1 : ¬ (str (nameB' (bs[j]'kl))).toList = [] := by rw [ByteArray.toList_eq, str_list]; exact z
          have z2 : ((str (nameB' (bs[j]'kl))).toList == []) = false := beq_eq_false_iff_ne.2 z1
          have z3 : (str (nameB' (bs[j]'kl))).toList.isEmpty = false := by rw [ByteArray.toList_eq, str_list]; simp [z]
          rw [if_neg z, orF_nil] at HST
          generalize str (nameB' (bs[j]'kl)) = nm at co z1 z2 z3 HS HCO
          clear z
          go_wp2_with (first
            | (go_at_call 17; refine (fail_any CW.out at1 _).mono ?_; rintro e w8 ⟨rfl, F8, C8⟩; replace FW : Hid (Fr b w w8) := ⟨FW.out.trans F8⟩; replace CW := Hid.mk C8; replace XW : Hid (Bx w8 w.heap.size #[.int .i64 k, .int .i64 a, .string (str n), .int .i64 m, .slice g4 l4 c4, .slice (some ⟨p1, p2, none⟩) l5 c5, .slice g6 l6 c6, .slice g7 l7 c7] 45) := ⟨XW.out.fr F8 ne⟩; replace NW : Hid (Nw w8 Z (.slice (some ⟨go1, go2, none⟩) l5 CO) own) := ⟨NW.out.fr F8 lz⟩; have x1 : w8.cell? ⟨w.heap.size, 1, none⟩ = some (.int .i64 a) := XW.out.cell 1; have x5 : w8.cell? ⟨w.heap.size, 5, none⟩ = some (.slice (some ⟨p1, p2, none⟩) l5 c5) := XW.out.cell 5; have x6 : w8.cell? ⟨w.heap.size, 6, none⟩ = some (.slice g6 l6 c6) := XW.out.cell 6; have co8 := HCO.out _ NW.out; have ca8 := HCA.out _ FW.out; clear F8 C8))
          go_region_held3 (fun w' => w'.cell? ⟨go1, go2 + j, none⟩ = some (.string nm)) (go_keep) (first
            | (go_at_call 19; refine (HS _ (NW.out.below (Below.refl _ _).drew)).mono ?_; rintro e w9 ⟨rfl, rfl⟩; replace FW : Hid (Fr b w wr.drew) := ⟨FW.out.drew⟩; replace CW := Hid.mk CW.out.drew; replace XW : Hid (Bx wr.drew w.heap.size #[.int .i64 k, .int .i64 a, .string (str n), .int .i64 m, .slice g4 l4 c4, .slice (some ⟨p1, p2, none⟩) l5 c5, .slice g6 l6 c6, .slice g7 l7 c7] 45) := ⟨XW.out⟩; replace NW : Hid (Nw wr.drew Z (.slice (some ⟨go1, go2, none⟩) l5 CO) own) := ⟨NW.out.below (Below.refl _ _).drew⟩; have x1 : wr.drew.cell? ⟨w.heap.size, 1, none⟩ = some (.int .i64 a) := XW.out.cell 1; have x5 : wr.drew.cell? ⟨w.heap.size, 5, none⟩ = some (.slice (some ⟨p1, p2, none⟩) l5 c5) := XW.out.cell 5; have x6 : wr.drew.cell? ⟨w.heap.size, 6, none⟩ = some (.slice g6 l6 c6) := XW.out.cell 6; have ca9 := HCA.out _ FW.out))
          all_goals go_wp2_with (first
            | (go_at_call 17; refine (fail_any CW.out at1 _).mono ?_; rintro e w8 ⟨rfl, F8, C8⟩; replace FW : Hid (Fr b w w8) := ⟨FW.out.trans F8⟩; replace CW := Hid.mk C8; replace XW : Hid (Bx w8 w.heap.size #[.int .i64 k, .int .i64 a, .string (str n), .int .i64 m, .slice g4 l4 c4, .slice (some ⟨p1, p2, none⟩) l5 c5, .slice g6 l6 c6, .slice g7 l7 c7] 45) := ⟨XW.out.fr F8 ne⟩; replace NW : Hid (Nw w8 Z (.slice (some ⟨go1, go2, none⟩) l5 CO) own) := ⟨NW.out.fr F8 lz⟩; have x1 : w8.cell? ⟨w.heap.size, 1, none⟩ = some (.int .i64 a) := XW.out.cell 1; have x5 : w8.cell? ⟨w.heap.size, 5, none⟩ = some (.slice (some ⟨p1, p2, none⟩) l5 c5) := XW.out.cell 5; have x6 : w8.cell? ⟨w.heap.size, 6, none⟩ = some (.slice g6 l6 c6) := XW.out.cell 6; have co8 := HCO.out _ NW.out; have ca8 := HCA.out _ FW.out; clear F8 C8))
          all_goals exact ⟨⟨j + 1, _, by go_num, by omega, CW.out, HST, FW.out, XW.out, NW.out⟩, by simp [intOf]; omega⟩
      · rw [if_pos (show true = true from rfl)] at HST
        by_cases z : nameB' (bs[j]'kl) = []
        · have z1 : (str (nameB' (bs[j]'kl))).toList = [] := by rw [z, ByteArray.toList_eq]; rfl
          rw [if_pos z] at HST
          generalize str (nameB' (bs[j]'kl)) = nm at co z1 HS HCO
          clear z
          go_wp2_with (first
            | (go_at_call 17; refine (fail_any CW.out at1 _).mono ?_; rintro e w8 ⟨rfl, F8, C8⟩; replace FW : Hid (Fr b w w8) := ⟨FW.out.trans F8⟩; replace CW := Hid.mk C8; replace XW : Hid (Bx w8 w.heap.size #[.int .i64 k, .int .i64 a, .string (str n), .int .i64 m, .slice g4 l4 c4, .slice (some ⟨p1, p2, none⟩) l5 c5, .slice g6 l6 c6, .slice g7 l7 c7] 45) := ⟨XW.out.fr F8 ne⟩; replace NW : Hid (Nw w8 Z (.slice (some ⟨go1, go2, none⟩) l5 CO) own) := ⟨NW.out.fr F8 lz⟩; have x1 : w8.cell? ⟨w.heap.size, 1, none⟩ = some (.int .i64 a) := XW.out.cell 1; have x5 : w8.cell? ⟨w.heap.size, 5, none⟩ = some (.slice (some ⟨p1, p2, none⟩) l5 c5) := XW.out.cell 5; have x6 : w8.cell? ⟨w.heap.size, 6, none⟩ = some (.slice g6 l6 c6) := XW.out.cell 6; have co8 := HCO.out _ NW.out; have ca8 := HCA.out _ FW.out; clear F8 C8))
          go_region_held3 (fun w' => w'.cell? ⟨go1, go2 + j, none⟩ = some (.string nm)) (go_keep) (first
            | (go_at_call 19; refine (HS _ (NW.out.below (Below.refl _ _).drew)).mono ?_; rintro e w9 ⟨rfl, rfl⟩; replace FW : Hid (Fr b w w8.drew) := ⟨FW.out.drew⟩; replace CW := Hid.mk CW.out.drew; replace XW : Hid (Bx w8.drew w.heap.size #[.int .i64 k, .int .i64 a, .string (str n), .int .i64 m, .slice g4 l4 c4, .slice (some ⟨p1, p2, none⟩) l5 c5, .slice g6 l6 c6, .slice g7 l7 c7] 45) := ⟨XW.out⟩; replace NW : Hid (Nw w8.drew Z (.slice (some ⟨go1, go2, none⟩) l5 CO) own) := ⟨NW.out.below (Below.refl _ _).drew⟩; have x1 : w8.drew.cell? ⟨w.heap.size, 1, none⟩ = some (.int .i64 a) := XW.out.cell 1; have x5 : w8.drew.cell? ⟨w.heap.size, 5, none⟩ = some (.slice (some ⟨p1, p2, none⟩) l5 c5) := XW.out.cell 5; have x6 : w8.drew.cell? ⟨w.heap.size, 6, none⟩ = some (.slice g6 l6 c6) := XW.out.cell 6; have ca9 := HCA.out _ FW.out))
          all_goals go_wp2_with (first
            | (go_at_call 17; refine (fail_any CW.out at1 _).mono ?_; rintro e w8 ⟨rfl, F8, C8⟩; replace FW : Hid (Fr b w w8) := ⟨FW.out.trans F8⟩; replace CW := Hid.mk C8; replace XW : Hid (Bx w8 w.heap.size #[.int .i64 k, .int .i64 a, .string (str n), .int .i64 m, .slice g4 l4 c4, .slice (some ⟨p1, p2, none⟩) l5 c5, .slice g6 l6 c6, .slice g7 l7 c7] 45) := ⟨XW.out.fr F8 ne⟩; replace NW : Hid (Nw w8 Z (.slice (some ⟨go1, go2, none⟩) l5 CO) own) := ⟨NW.out.fr F8 lz⟩; have x1 : w8.cell? ⟨w.heap.size, 1, none⟩ = some (.int .i64 a) := XW.out.cell 1; have x5 : w8.cell? ⟨w.heap.size, 5, none⟩ = some (.slice (some ⟨p1, p2, none⟩) l5 c5) := XW.out.cell 5; have x6 : w8.cell? ⟨w.heap.size, 6, none⟩ = some (.slice g6 l6 c6) := XW.out.cell 6; have co8 := HCO.out _ NW.out; have ca8 := HCA.out _ FW.out; clear F8 C8))
          all_goals exact ⟨⟨j + 1, _, by go_num, by omega, CW.out, HST, FW.out, XW.out, NW.out⟩, by simp [intOf]; omega⟩
        · have z1 : ¬ (str (nameB' (bs[j]'kl))).toList = [] := by rw [ByteArray.toList_eq, str_list]; exact z
          have z2 : ((str (nameB' (bs[j]'kl))).toList == []) = false := beq_eq_false_iff_ne.2 z1
          have z3 : (str (nameB' (bs[j]'kl))).toList.isEmpty = false := by rw [ByteArray.toList_eq, str_list]; simp [z]
          rw [if_neg z, orF_nil] at HST
          generalize str (nameB' (bs[j]'kl)) = nm at co z1 z2 z3 HS HCO
          clear z
          go_wp2_with (first
            | (go_at_call 17; refine (fail_any CW.out at1 _).mono ?_; rintro e w8 ⟨rfl, F8, C8⟩; replace FW : Hid (Fr b w w8) := ⟨FW.out.trans F8⟩; replace CW := Hid.mk C8; replace XW : Hid (Bx w8 w.heap.size #[.int .i64 k, .int .i64 a, .string (str n), .int .i64 m, .slice g4 l4 c4, .slice (some ⟨p1, p2, none⟩) l5 c5, .slice g6 l6 c6, .slice g7 l7 c7] 45) := ⟨XW.out.fr F8 ne⟩; replace NW : Hid (Nw w8 Z (.slice (some ⟨go1, go2, none⟩) l5 CO) own) := ⟨NW.out.fr F8 lz⟩; have x1 : w8.cell? ⟨w.heap.size, 1, none⟩ = some (.int .i64 a) := XW.out.cell 1; have x5 : w8.cell? ⟨w.heap.size, 5, none⟩ = some (.slice (some ⟨p1, p2, none⟩) l5 c5) := XW.out.cell 5; have x6 : w8.cell? ⟨w.heap.size, 6, none⟩ = some (.slice g6 l6 c6) := XW.out.cell 6; have co8 := HCO.out _ NW.out; have ca8 := HCA.out _ FW.out; clear F8 C8))
          go_region_held3 (fun w' => w'.cell? ⟨go1, go2 + j, none⟩ = some (.string nm)) (go_keep) (first
            | (go_at_call 19; refine (HS _ (NW.out.below (Below.refl _ _).drew)).mono ?_; rintro e w9 ⟨rfl, rfl⟩; replace FW : Hid (Fr b w wr.drew) := ⟨FW.out.drew⟩; replace CW := Hid.mk CW.out.drew; replace XW : Hid (Bx wr.drew w.heap.size #[.int .i64 k, .int .i64 a, .string (str n), .int .i64 m, .slice g4 l4 c4, .slice (some ⟨p1, p2, none⟩) l5 c5, .slice g6 l6 c6, .slice g7 l7 c7] 45) := ⟨XW.out⟩; replace NW : Hid (Nw wr.drew Z (.slice (some ⟨go1, go2, none⟩) l5 CO) own) := ⟨NW.out.below (Below.refl _ _).drew⟩; have x1 : wr.drew.cell? ⟨w.heap.size, 1, none⟩ = some (.int .i64 a) := XW.out.cell 1; have x5 : wr.drew.cell? ⟨w.heap.size, 5, none⟩ = some (.slice (some ⟨p1, p2, none⟩) l5 c5) := XW.out.cell 5; have x6 : wr.drew.cell? ⟨w.heap.size, 6, none⟩ = some (.slice g6 l6 c6) := XW.out.cell 6; have ca9 := HCA.out _ FW.out))
          all_goals go_wp2_with (first
            | (go_at_call 17; refine (fail_any CW.out at1 _).mono ?_; rintro e w8 ⟨rfl, F8, C8⟩; replace FW : Hid (Fr b w w8) := ⟨FW.out.trans F8⟩; replace CW := Hid.mk C8; replace XW : Hid (Bx w8 w.heap.size #[.int .i64 k, .int .i64 a, .string (str n), .int .i64 m, .slice g4 l4 c4, .slice (some ⟨p1, p2, none⟩) l5 c5, .slice g6 l6 c6, .slice g7 l7 c7] 45) := ⟨XW.out.fr F8 ne⟩; replace NW : Hid (Nw w8 Z (.slice (some ⟨go1, go2, none⟩) l5 CO) own) := ⟨NW.out.fr F8 lz⟩; have x1 : w8.cell? ⟨w.heap.size, 1, none⟩ = some (.int .i64 a) := XW.out.cell 1; have x5 : w8.cell? ⟨w.heap.size, 5, none⟩ = some (.slice (some ⟨p1, p2, none⟩) l5 c5) := XW.out.cell 5; have x6 : w8.cell? ⟨w.heap.size, 6, none⟩ = some (.slice g6 l6 c6) := XW.out.cell 6; have co8 := HCO.out _ NW.out; have ca8 := HCA.out _ FW.out; clear F8 C8))
          all_goals exact ⟨⟨j + 1, _, by go_num, by omega, CW.out, HST, FW.out, XW.out, NW.out⟩, by simp [intOf]; omega⟩
    · obtain rfl : l5 = j := by omega
      have HT : Hid (fk = F1) := ⟨by have := HK.out; rwa [List.drop_eq_nil_of_le (by rw [HALL.out.2.2.2.2.2.2.2.2.1]; exact Nat.le_refl _), namQ, orF_nil] at this⟩
      have l0 : 0 < l5 := by have := e5'; simp at this; omega
      have l1 : 0 < l6 := by have := e6'; simp at this; omega
      have NR := NW.out.row (ok := but b) (by rw [HLO.out]; exact hl5) (fun g hg => by show g ≠ b; omega)
      have WI := with_any (ok := but b) is own vi _ (HALL.out.2.2.2.1.keeps (keeps_fr FW.out)) NR (by rw [HLO.out]; have := HLE.out; omega)
      have LTW := XW.out.lt
      rw [HLO.out] at NR
      clear HK
      go_wp2_with (first
        | (go_at_call 36; refine WI.mono ?_; rintro e w3 ⟨vin, rfl, B8, NI⟩; obtain ⟨gi, ci, rfl⟩ := NI.form; obtain ⟨li, hli⟩ : ∃ li, (is ++ own).length = li := ⟨_, rfl⟩; rw [hli] at NI ⊢; have HLI := Hid.mk hli; have HNI := Hid.mk NI; replace FW := Hid.mk (FW.out.trans (Fr.of_below B8)); replace CW := Hid.mk (CW.out.later B8); replace XW : Hid (Bx w3 w.heap.size #[.int .i64 k, .int .i64 a, .string (str n), .int .i64 m, .slice g4 l4 c4, .slice g5 l5 c5, .slice g6 l6 c6, .slice g7 l7 c7] 45) := Hid.mk (XW.out.later B8); have x1 : w3.cell? ⟨w.heap.size, 1, none⟩ = some (.int .i64 a) := XW.out.cell 1; have x5 : w3.cell? ⟨w.heap.size, 5, none⟩ = some (.slice g5 l5 c5) := XW.out.cell 5; have x6 : w3.cell? ⟨w.heap.size, 6, none⟩ = some (.slice g6 l6 c6) := XW.out.cell 6; clear B8; clear NI WI hli))
      have LZ2 : b < wr.heap.size := by omega
      generalize wr.heap.size = Z2 at *
      have HN2 : Hid (orF fk (orF (chBs ds prN tA (fun x => is.contains x || own.contains x) (bs.drop 0)) (chK ds prN tA (fun x => is.contains x || own.contains x) ks)) = F) := ⟨by rw [HT.out, List.drop_zero]; exact HF.out⟩
      go_loopw [8] (fun c2 wr2 => ∃ (j2 : Nat) (fk2 : Flt), c2 = .int .i64 j2 ∧ j2 ≤ l5 ∧ Ck wr2 b vd vb fk2 ∧ Hid (orF fk2 (orF (chBs ds prN tA (fun x => is.contains x || own.contains x) (bs.drop j2)) (chK ds prN tA (fun x => is.contains x || own.contains x) ks)) = F) ∧ Fr b w wr2 ∧ Bx wr2 w.heap.size #[.int .i64 k, .int .i64 a, .string (str n), .int .i64 m, .slice g4 l4 c4, .slice g5 l5 c5, .slice g6 l6 c6, .slice g7 l7 c7] 45 ∧ Nw wr2 Z2 (.slice gi li ci) (is ++ own)) (fun c2 _ => l5 - (intOf c2).toNat)
      case atStart => exact ⟨0, fk, rfl, Nat.zero_le _, CW.out, HN2, FW.out, XW.out, HNI.out⟩
      case round =>
        clear CW FW XW HNI HN2 NW NR HT x1 x5 x6
        obtain ⟨j2, fk2, rfl, hj2, CW, HK2, FW, XW, NW⟩ := hrel
        replace CW := Hid.mk CW
        replace FW := Hid.mk FW
        replace XW := Hid.mk XW
        replace NW := Hid.mk NW
        have x1 : wr.cell? ⟨w.heap.size, 1, none⟩ = some (.int .i64 a) := XW.out.cell 1
        have x5 : wr.cell? ⟨w.heap.size, 5, none⟩ = some (.slice g5 l5 c5) := XW.out.cell 5
        have x6 : wr.cell? ⟨w.heap.size, 6, none⟩ = some (.slice g6 l6 c6) := XW.out.cell 6
        have NR2 := NW.out.row (ok := but b) (by rw [List.length_append, HLO.out]; have := HLE.out; omega) (fun g hg => by show g ≠ b; omega)
        rw [HLI.out] at NR2
        by_cases hlt2 : j2 < l5
        · have kl : j2 < bs.length := by rw [HALL.out.2.2.2.2.2.2.2.2.1]; exact hlt2
          obtain ⟨p1, p2, rfl, hp, hxb⟩ := rowC (show IsRow w (but b) xb l5 (.slice g5 l5 c5) by have := HALL.out.2.2.2.2.1; rwa [HALL.out.2.2.2.2.2.2.2.2.1] at this) (by omega)
          obtain ⟨d, hd, hg⟩ := isBs_get bs xb HALL.out.2.2.2.2.2.1 j2 kl
          obtain ⟨bk, bxa, bm, ba, bs0, s0, h3, h4, h5, h6, h7, m3, m4, m5, m6, m7, d3, d4, d5, d6, d7, rfl⟩ := isB_eleven hd
          have e0 : wr.cell? ⟨p1, p2 + j2 * 11, none⟩ = some (.string s0) := by have h0 := (keeps_fr FW.out).cell p1 _ _ hp (hxb _ _ (hg 0 _ rfl)); simpa only [Nat.add_zero, ← Nat.add_assoc] using h0
          have e1 : wr.cell? ⟨p1, p2 + j2 * 11 + 1, none⟩ = some (.int .i64 ba) := by have h0 := (keeps_fr FW.out).cell p1 _ _ hp (hxb _ _ (hg 1 _ rfl)); simpa only [Nat.add_zero, ← Nat.add_assoc] using h0
          have e2 : wr.cell? ⟨p1, p2 + j2 * 11 + 2, none⟩ = some (.slice h3 m3 d3) := by have h0 := (keeps_fr FW.out).cell p1 _ _ hp (hxb _ _ (hg 2 _ rfl)); simpa only [Nat.add_zero, ← Nat.add_assoc] using h0
          have e3 : wr.cell? ⟨p1, p2 + j2 * 11 + 3, none⟩ = some (.int .i64 bk) := by have h0 := (keeps_fr FW.out).cell p1 _ _ hp (hxb _ _ (hg 3 _ rfl)); simpa only [Nat.add_zero, ← Nat.add_assoc] using h0
          have e4 : wr.cell? ⟨p1, p2 + j2 * 11 + 4, none⟩ = some (.int .i64 bxa) := by have h0 := (keeps_fr FW.out).cell p1 _ _ hp (hxb _ _ (hg 4 _ rfl)); simpa only [Nat.add_zero, ← Nat.add_assoc] using h0
          have e5 : wr.cell? ⟨p1, p2 + j2 * 11 + 5, none⟩ = some (.string bs0) := by have h0 := (keeps_fr FW.out).cell p1 _ _ hp (hxb _ _ (hg 5 _ rfl)); simpa only [Nat.add_zero, ← Nat.add_assoc] using h0
          have e6 : wr.cell? ⟨p1, p2 + j2 * 11 + 6, none⟩ = some (.int .i64 bm) := by have h0 := (keeps_fr FW.out).cell p1 _ _ hp (hxb _ _ (hg 6 _ rfl)); simpa only [Nat.add_zero, ← Nat.add_assoc] using h0
          have e7 : wr.cell? ⟨p1, p2 + j2 * 11 + 7, none⟩ = some (.slice h4 m4 d4) := by have h0 := (keeps_fr FW.out).cell p1 _ _ hp (hxb _ _ (hg 7 _ rfl)); simpa only [Nat.add_zero, ← Nat.add_assoc] using h0
          have e8 : wr.cell? ⟨p1, p2 + j2 * 11 + 8, none⟩ = some (.slice h5 m5 d5) := by have h0 := (keeps_fr FW.out).cell p1 _ _ hp (hxb _ _ (hg 8 _ rfl)); simpa only [Nat.add_zero, ← Nat.add_assoc] using h0
          have e9 : wr.cell? ⟨p1, p2 + j2 * 11 + 9, none⟩ = some (.slice h6 m6 d6) := by have h0 := (keeps_fr FW.out).cell p1 _ _ hp (hxb _ _ (hg 9 _ rfl)); simpa only [Nat.add_zero, ← Nat.add_assoc] using h0
          have e10 : wr.cell? ⟨p1, p2 + j2 * 11 + 10, none⟩ = some (.slice h7 m7 d7) := by have h0 := (keeps_fr FW.out).cell p1 _ _ hp (hxb _ _ (hg 10 _ rfl)); simpa only [Nat.add_zero, ← Nat.add_assoc] using h0
          have hst := HK2.out
          rw [List.drop_eq_getElem_cons kl, chBs, orF_assoc, ← orF_assoc] at hst
          have HST := Hid.mk hst
          have BO := HALL.out.1 (bs[j2]'kl) (List.getElem_mem kl) wr b vd vb fk2 ds _ (is ++ own) (.slice gi li ci) CW.out (HALL.out.2.2.1.keeps (keeps_fr FW.out)) (isB_keeps (keeps_fr FW.out) _ _ hd) (by rw [HLI.out]; exact NR2) (by have := HLE.out; have := nmBs_le bs j2 kl; rw [List.length_append, HLO.out]; omega)
          rw [show (fun y => (is ++ own).contains y) = (fun y => is.contains y || own.contains y) from funext (has_app is own)] at BO
          have hlt2' : (j2 : Int) < l5 := by omega
          clear hst hxb hg hd NR2 HK2
          go_wp2_with (go_at_call 20; refine BO.mono ?_; rintro e w5 ⟨rfl, F8, C8⟩; replace FW : Hid (Fr b w w5) := ⟨FW.out.trans F8⟩; replace CW := Hid.mk C8; replace XW : Hid (Bx w5 w.heap.size #[.int .i64 k, .int .i64 a, .string (str n), .int .i64 m, .slice g4 l4 c4, .slice (some ⟨p1, p2, none⟩) l5 c5, .slice g6 l6 c6, .slice g7 l7 c7] 45) := ⟨XW.out.fr F8 ne⟩; replace NW : Hid (Nw w5 Z2 (.slice gi li ci) (is ++ own)) := ⟨NW.out.fr F8 LZ2⟩; clear F8 C8 BO)
          exact ⟨⟨j2 + 1, _, by go_num, by omega, CW.out, HST, FW.out, XW.out, NW.out⟩, by simp [intOf]; omega⟩
        · obtain rfl : l5 = j2 := by omega
          have hst := HK2.out
          rw [List.drop_eq_nil_of_le (by rw [HALL.out.2.2.2.2.2.2.2.2.1]; exact Nat.le_refl _), chBs, orF_left] at hst
          have kl : 0 < ks.length := by rw [HALL.out.2.2.2.2.2.2.2.2.2]; exact l1
          obtain ⟨k1, k2, rfl, hk1, hxk⟩ := rowC (show IsRow w (but b) xk l6 (.slice g6 l6 c6) by have := HALL.out.2.2.2.2.2.2.1; rwa [HALL.out.2.2.2.2.2.2.2.2.2] at this) l1
          obtain ⟨d, hd, hgk⟩ := isEs_get ks xk HALL.out.2.2.2.2.2.2.2.1 0 kl
          obtain ⟨kk, ka, km, ks0, h4, h5, h6, h7, m4, m5, m6, m7, d4, d5, d6, d7, rfl⟩ := isE_eight hd
          have e0 : wr.cell? ⟨k1, k2, none⟩ = some (.int .i64 kk) := by have h0 := (keeps_fr FW.out).cell k1 _ _ hk1 (hxk _ _ (hgk 0 _ rfl)); simpa only [Nat.zero_mul, Nat.zero_add, Nat.add_zero, ← Nat.add_assoc] using h0
          have e1 : wr.cell? ⟨k1, k2 + 1, none⟩ = some (.int .i64 ka) := by have h0 := (keeps_fr FW.out).cell k1 _ _ hk1 (hxk _ _ (hgk 1 _ rfl)); simpa only [Nat.zero_mul, Nat.zero_add, Nat.add_zero, ← Nat.add_assoc] using h0
          have e2 : wr.cell? ⟨k1, k2 + 2, none⟩ = some (.string ks0) := by have h0 := (keeps_fr FW.out).cell k1 _ _ hk1 (hxk _ _ (hgk 2 _ rfl)); simpa only [Nat.zero_mul, Nat.zero_add, Nat.add_zero, ← Nat.add_assoc] using h0
          have e3 : wr.cell? ⟨k1, k2 + 3, none⟩ = some (.int .i64 km) := by have h0 := (keeps_fr FW.out).cell k1 _ _ hk1 (hxk _ _ (hgk 3 _ rfl)); simpa only [Nat.zero_mul, Nat.zero_add, Nat.add_zero, ← Nat.add_assoc] using h0
          have e4 : wr.cell? ⟨k1, k2 + 4, none⟩ = some (.slice h4 m4 d4) := by have h0 := (keeps_fr FW.out).cell k1 _ _ hk1 (hxk _ _ (hgk 4 _ rfl)); simpa only [Nat.zero_mul, Nat.zero_add, Nat.add_zero, ← Nat.add_assoc] using h0
          have e5 : wr.cell? ⟨k1, k2 + 5, none⟩ = some (.slice h5 m5 d5) := by have h0 := (keeps_fr FW.out).cell k1 _ _ hk1 (hxk _ _ (hgk 5 _ rfl)); simpa only [Nat.zero_mul, Nat.zero_add, Nat.add_zero, ← Nat.add_assoc] using h0
          have e6 : wr.cell? ⟨k1, k2 + 6, none⟩ = some (.slice h6 m6 d6) := by have h0 := (keeps_fr FW.out).cell k1 _ _ hk1 (hxk _ _ (hgk 6 _ rfl)); simpa only [Nat.zero_mul, Nat.zero_add, Nat.add_zero, ← Nat.add_assoc] using h0
          have e7 : wr.cell? ⟨k1, k2 + 7, none⟩ = some (.slice h7 m7 d7) := by have h0 := (keeps_fr FW.out).cell k1 _ _ hk1 (hxk _ _ (hgk 7 _ rfl)); simpa only [Nat.zero_mul, Nat.zero_add, Nat.add_zero, ← Nat.add_assoc] using h0
          rw [chK_get ks kl] at hst
          have HST := Hid.mk hst
          have EO := HALL.out.2.1 (ks[0]'kl) (List.getElem_mem kl) wr b vd vb fk2 ds _ (is ++ own) (.slice gi li ci) CW.out (HALL.out.2.2.1.keeps (keeps_fr FW.out)) (isE_keeps (keeps_fr FW.out) _ _ hd) (by rw [HLI.out]; exact NR2) (by have := HLE.out; have := nmEs_le ks 0 kl; rw [List.length_append, HLO.out]; omega)
          rw [show (fun y => (is ++ own).contains y) = (fun y => is.contains y || own.contains y) from funext (has_app is own), hst] at EO
          have l1' : (0 : Int) < l6 := by omega
          clear hst hxk hgk hd NR2 HK2
          go_wp2_with (go_at_call 35; refine EO.mono ?_; rintro e w6 ⟨rfl, F8, C8⟩; have HE := Hid.mk (And.intro (FW.out.trans F8) C8); clear F8 C8 EO)
          go_end0
          exact ⟨rfl, HE.out.1, HE.out.2⟩
end Go.Proofs.YtcbdolflgpmaoaaDoor
