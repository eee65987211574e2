/- Package scope's checker: binds that know one another. -/
import Derived.Test.YtbajpejnnfacbaaGreatDoorScm
namespace Go.Proofs.YtbajpejnnfacbaaGreatDoor
open Go.RowKit
open Go.Maps (Keyed string_keyed)
set_option linter.unusedVariables false
set_option linter.unusedSimpArgs false

theorem nmBs_app : ∀ a b : List B, nmBs (a ++ b) = nmBs a + nmBs b
  | [], b => by rw [List.nil_append, nmBs, Nat.zero_add]
  | x :: r, b => by rw [List.cons_append, nmBs, nmBs_app r b, nmBs]; omega
theorem nmBs_take (l : List B) (j : Nat) (h : j < l.length) : nmBs (l.take (j + 1)) = nmBs (l.take j) + nmB (l[j]'h) := by
  rw [List.take_succ_eq_append_getElem h, nmBs_app, nmBs, nmBs]; omega
theorem nmBs_take_le (l : List B) (j : Nat) : nmBs (l.take j) ≤ nmBs l := by
  have := nmBs_app (l.take j) (l.drop j)
  rw [List.take_append_drop] at this
  omega
theorem isB_bind {w : World} {ok : Nat → Prop} {x : B} {c : List Value} (h : isB w ok x c) : ∃ nm a al y, x = .mk nm a al y := by
  obtain ⟨nm, a, al, y⟩ := x
  exact ⟨_, _, _, _, rfl⟩
theorem namF_cons (ahead : List Nm) (x : B) (r : List B) {w : World} {ok : Nat → Prop} {a : Int} {d : List Value} (h : isB w ok x (.string (str (nameB' x)) :: .int .i64 a :: d)) : namF ahead (x :: r) = if nameB' x = [] then some (a, 31) else if ahead.contains (nameB' x) then some (a, 30) else namF (nameB' x :: ahead) r := by
  obtain ⟨nm, a', al, y⟩ := x
  simp only [isB] at h
  obtain ⟨va, dd, e, _, _⟩ := h
  simp only [List.cons_append, List.nil_append, List.cons.injEq, Value.int.injEq, true_and] at e
  obtain ⟨_, rfl, _⟩ := e
  rfl
set_option maxRecDepth 100000 in
set_option maxHeartbeats 8000000 in
theorem group_any (bs : List B) (HB : ∀ x ∈ bs, PB x) {w : World} {b f m nf n : Nat} {ds : List D} {bd : Nm → Nat} (h : Cs w b f m nf n (arityN ds) bd) (v : Value) (xb : List Value) (R : IsRow w (but3 b f m) xb bs.length v) (RB : isBs w (but3 b f m) bs xb) (ok : okBs bs) (hn : n + bs.length + 2 * nmBs bs ≤ 1000000000) :
    Calls Tryz.prog 43 #[ptr b, v] w (Res w b f m nf (n + bs.length + 2 * nmBs bs) (arityN ds) (plus bd (bs.map nameB')) (orF (namF [] bs) (chBs ds prN tA (scD (plus bd (bs.map nameB'))) bs))) := by
  obtain ⟨names, hnm⟩ : ∃ names, bs.map nameB' = names := ⟨_, rfl⟩
  have hsm : ∀ s ∈ names, s.length ≤ maxLen := fun s hs => by
    rw [← hnm] at hs
    obtain ⟨x, hx, rfl⟩ := List.mem_map.1 hs
    have := okBs_mem ok x hx
    obtain ⟨nm, a, al, y⟩ := x
    simp only [okB] at this
    exact this.1
  have FD := fd45_any bs xb names hnm v R RB hsm
  have NO := fun (W : World) (k : Ge b f m w W) => namesOf_any (w := W) bs v xb (R.keeps k.keeps) (isBs_keeps k.keeps _ _ RB)
  rw [hnm] at NO
  rw [hnm]
  have kk : names.length = bs.length := by rw [← hnm, List.length_map]
  obtain ⟨F1, hF1⟩ : ∃ F1, namF [] bs = F1 := ⟨_, rfl⟩
  obtain ⟨F2, hF2⟩ : ∃ F2, chBs ds prN tA (scD (plus bd names)) bs = F2 := ⟨_, rfl⟩
  rw [hF1, hF2]
  have HF1 : Hid (namF (names.take 0).reverse (bs.drop 0) = F1) := ⟨by rw [List.take_zero, List.drop_zero]; exact hF1⟩
  have HF2 : Hid (chBs ds prN tA (scD (plus bd names)) (bs.drop 0) = F2) := ⟨by rw [List.drop_zero]; exact hF2⟩
  have HE := Hid.mk hnm
  have HSM := Hid.mk hsm
  have HNO := Hid.mk NO
  have HHB := Hid.mk HB
  have HOK := Hid.mk ok
  have HC0 := Hid.mk h
  obtain ⟨ga, cap, rfl, hc, hx⟩ := id R
  have HRB := Hid.mk (And.intro R RB)
  have HX := Hid.mk hx
  obtain ⟨k, hk⟩ : ∃ k, bs.length = k := ⟨_, rfl⟩
  have HK := Hid.mk hk
  have HNL : Hid (names.length = k) := ⟨kk.trans hk⟩
  rw [hk] at hc hn FD
  simp only [hk] at HNO
  simp only [hk]
  obtain ⟨r, hr⟩ : ∃ r, firstD names = r := ⟨_, rfl⟩
  rw [hr] at FD
  have HRR := Hid.mk hr
  clear h R RB ok hnm hsm NO HB kk hF1 hF2 hx hk hr
  go_enter Tryz.func43, Tryz.ntmps43
  go_wp2_with (go_at_call 56; refine FD.mono ?_; rintro e w1 ⟨rfl, B1⟩; have HB1 := Hid.mk B1; clear B1 FD)
  go_loopw [14] (fun c wr => ∃ i : Nat, c = .int .i64 i ∧ i ≤ k ∧ Hid (Below w.heap.size w wr) ∧ Hid (namF (names.take i).reverse (bs.drop i) = F1) ∧ Hid (noD names i)) (fun c _ => k - (intOf c).toNat)
  case atStart => exact ⟨0, rfl, Nat.zero_le _, HB1, HF1, ⟨noD_zero _⟩⟩
  case round =>
    obtain ⟨i, rfl, hi, BW, HK1, HND⟩ := hrel
    by_cases hlt : i < k
    · have kl : i < bs.length := by rw [HK.out]; exact hlt
      have knl : i < names.length := by rw [HNL.out]; exact hlt
      obtain ⟨p, off, rfl, hp, hx⟩ := HX.out (by rw [HK.out]; omega)
      obtain ⟨d, hd, hg⟩ := isBs_get bs xb HRB.out.2 i kl
      have edn : nameB' (bs[i]'kl) = names[i]'knl := by simp only [← HE.out, List.getElem_map]
      obtain ⟨a, k1, xa, xm, xs, _, _, _, _, _, rfl, ⟨h2, m2, z2, rfl⟩, ⟨h7, m7, z7, rfl⟩, ⟨h8, m8, z8, rfl⟩, ⟨h9, m9, z9, rfl⟩, ⟨h10, m10, z10, rfl⟩⟩ := isB_ls hd edn
      have bl : ∀ (j : Nat) (u : Value), [Value.string (str (names[i]'knl)), .int .i64 a, .slice h2 m2 z2, .int .i64 k1, .int .i64 xa, .string xs, .int .i64 xm, .slice h7 m7 z7, .slice h8 m8 z8, .slice h9 m9 z9, .slice h10 m10 z10][j]? = some u → wr.cell? ⟨p, off + i * 11 + j, none⟩ = some u := fun j u hj => by
        have h0 := hx _ _ (hg j u hj)
        rw [← Nat.add_assoc] at h0
        exact (BW.out.cell (World.block_lt_of_cell? _ _ h0)).trans h0
      have c0 := bl 0 _ rfl
      have c1 := bl 1 _ rfl
      have c2 := bl 2 _ rfl
      have c3 := bl 3 _ rfl
      have c4 := bl 4 _ rfl
      have c5 := bl 5 _ rfl
      have c6 := bl 6 _ rfl
      have c7 := bl 7 _ rfl
      have c8 := bl 8 _ rfl
      have c9 := bl 9 _ rfl
      have c10 := bl 10 _ rfl
      rw [Nat.add_zero] at c0
      have hst := HK1.out
      rw [List.drop_eq_getElem_cons kl, namF_cons _ _ _ (by rw [edn]; exact hd), edn, List.contains_reverse] at hst
      have hfd := fd_at knl HND.out
      rw [HRR.out] at hfd
      have HTK : Hid ((names[i]'knl) :: (names.take i).reverse = (names.take (i + 1)).reverse) := ⟨by rw [List.take_succ_eq_append_getElem knl, List.reverse_append]; rfl⟩
      have HNS := Hid.mk (fun q => noD_succ HND.out knl q)
      have hlt' : (i : Int) < k := by omega
      clear hx hd hg edn bl
      generalize names[i]'knl = nm at *
      have CW := Hid.mk ((HC0.out.later BW.out).alloc (.cells (bnd11 (str nm) a h2 m2 z2 k1 xa xm xs h7 h8 h9 h10 m7 m8 m9 m10 z7 z8 z9 z10) 58))
      have BW1 : Hid (Below w.heap.size w (wr.alloc (.cells (bnd11 (str nm) a h2 m2 z2 k1 xa xm xs h7 h8 h9 h10 m7 m8 m9 m10 z7 z8 z9 z10) 58))) := ⟨BW.out.alloc BW.out.size _⟩
      have XW : Bx (wr.alloc (.cells (bnd11 (str nm) a h2 m2 z2 k1 xa xm xs h7 h8 h9 h10 m7 m8 m9 m10 z7 z8 z9 z10) 58)) wr.heap.size (bnd11 (str nm) a h2 m2 z2 k1 xa xm xs h7 h8 h9 h10 m7 m8 m9 m10 z7 z8 z9 z10) 58 := heap_alloc_new wr _
      have y0 := XW.cell 0
      have y1 := XW.cell 1
      by_cases q : nm = []
      · rw [if_pos q] at hst
        have q' : (str nm).toList = [] := by rw [q, ByteArray.toList_eq]; rfl
        have HT := Hid.mk hst
        clear hst q hfd XW HNS HTK
        go_wp2_with (go_at_call 45; refine (pfail_any CW.out a _).mono ?_; rintro e w8 ⟨rfl, G8, C8⟩; have HE2 := Hid.mk (And.intro G8 C8); clear G8 C8)
        go_ret
        rw [← HT.out]
        exact ⟨rfl, (Ge.of_below BW1.out).trans HE2.out.1, HE2.out.2⟩
      · rw [if_neg q] at hst
        have q' : ¬ (str nm).toList = [] := by rw [ByteArray.toList_eq, str_list]; exact q
        have q2 : (str nm).toList.isEmpty = false := by rw [ByteArray.toList_eq, str_list]; simp [q]
        cases t : (names.take i).contains nm
        · rw [t, if_neg (by simp)] at hst
          rw [t] at hfd
          have HN1 := Hid.mk (HNS.out t)
          rw [HTK.out] at hst
          have HT := Hid.mk hst
          clear hst q t XW HNS HTK
          go_wp2
          exact ⟨⟨i + 1, by go_num, by omega, BW1, HT, HN1⟩, by simp [intOf]; omega⟩
        · rw [t, if_pos rfl] at hst
          rw [t] at hfd
          have HT := Hid.mk hst
          clear hst q t XW HNS HTK
          go_wp2_with (go_at_call 45; refine (pfail_any CW.out a _).mono ?_; rintro e w8 ⟨rfl, G8, C8⟩; have HE2 := Hid.mk (And.intro G8 C8); clear G8 C8)
          go_ret
          rw [← HT.out]
          exact ⟨rfl, (Ge.of_below BW1.out).trans HE2.out.1, HE2.out.2⟩
    · obtain rfl : i = k := by omega
      have eF : F1 = none := by
        have := HK1.out
        rw [List.drop_eq_nil_of_le (by rw [HK.out]; omega), namF] at this
        exact this.symm
      have HEF := Hid.mk eF
      have CW := Hid.mk (HC0.out.later BW.out)
      have NN := HNO.out wr (Ge.of_below BW.out)
      have hnw := CW.out.lts
      clear HK1 HF1 HND hi hlt eF
      go_wp2_with (first
        | (go_at_call 58; refine CE.mono ?_; rintro e w8 ⟨rfl, G8, C8⟩; have GW2 := Hid.mk (GW1.out.trans G8); have CW2 := Hid.mk C8; clear G8 C8 CE)
        | (go_at_call 59; refine NN.mono ?_; rintro e w7 ⟨vn, rfl, B7, NW⟩; have GW1 := Hid.mk ((Ge.of_below (b := b) (f := f) (m := m) BW.out).trans (Ge.of_below B7)); have CE := penter_any (CW.out.later B7) names vn (NW.row (by rw [HNL.out]; omega) (fun g hg => CW.out.new hg)) HSM.out (by rw [HNL.out]; omega); clear B7 NW NN))
      rw [HNL.out] at CW2
      go_loopw [40] (fun c wr2 => ∃ j : Nat, c = .int .i64 j ∧ j ≤ i ∧ Hid (Ge b f m w wr2) ∧ Hid (Cs wr2 b f m nf (n + i + 2 * nmBs (bs.take j)) (arityN ds) (plus bd names)) ∧ Hid (chBs ds prN tA (scD (plus bd names)) (bs.drop j) = F2)) (fun c _ => i - (intOf c).toNat)
      case atStart => exact ⟨0, rfl, Nat.zero_le _, GW2, ⟨by rw [List.take_zero]; exact CW2.out⟩, HF2⟩
      case round =>
        obtain ⟨j, rfl, hj, GW, CWW, HK2⟩ := hrel
        by_cases hlt : j < i
        · have kl : j < bs.length := by rw [HK.out]; exact hlt
          have knl : j < names.length := by rw [HNL.out]; exact hlt
          obtain ⟨p, off, rfl, hp, hx⟩ := HX.out (by rw [HK.out]; omega)
          obtain ⟨d, hd, hg⟩ := isBs_get bs xb HRB.out.2 j kl
          have edn : nameB' (bs[j]'kl) = names[j]'knl := by simp only [← HE.out, List.getElem_map]
          obtain ⟨a, k1, xa, xm, xs, _, _, _, _, _, rfl, ⟨h2, m2, z2, rfl⟩, ⟨h7, m7, z7, rfl⟩, ⟨h8, m8, z8, rfl⟩, ⟨h9, m9, z9, rfl⟩, ⟨h10, m10, z10, rfl⟩⟩ := isB_ls hd edn
          have bl : ∀ (t : Nat) (u : Value), [Value.string (str (names[j]'knl)), .int .i64 a, .slice h2 m2 z2, .int .i64 k1, .int .i64 xa, .string xs, .int .i64 xm, .slice h7 m7 z7, .slice h8 m8 z8, .slice h9 m9 z9, .slice h10 m10 z10][t]? = some u → wr.cell? ⟨p, off + j * 11 + t, none⟩ = some u := fun t u hj => by
            have h0 := hx _ _ (hg t u hj)
            rw [← Nat.add_assoc] at h0
            exact GW.out.keeps.cell p _ _ hp h0
          have c0 := bl 0 _ rfl
          have c1 := bl 1 _ rfl
          have c2 := bl 2 _ rfl
          have c3 := bl 3 _ rfl
          have c4 := bl 4 _ rfl
          have c5 := bl 5 _ rfl
          have c6 := bl 6 _ rfl
          have c7 := bl 7 _ rfl
          have c8 := bl 8 _ rfl
          have c9 := bl 9 _ rfl
          have c10 := bl 10 _ rfl
          rw [Nat.add_zero] at c0
          have hst := HK2.out
          rw [List.drop_eq_getElem_cons kl, chBs] at hst
          have hmk := List.getElem_mem kl
          have htk := nmBs_take bs j kl
          have htl := nmBs_take_le bs (j + 1)
          have hlt' : (j : Int) < i := by omega
          have GW1' : Hid (Ge b f m w (wr.alloc (.cells (bnd11 (str (names[j]'knl)) a h2 m2 z2 k1 xa xm xs h7 h8 h9 h10 m7 m8 m9 m10 z7 z8 z9 z10) 58))) := ⟨GW.out.alloc _⟩
          have CALL := HHB.out _ hmk _ b f m nf _ ds _ _ (CWW.out.alloc (.cells (bnd11 (str (names[j]'knl)) a h2 m2 z2 k1 xa xm xs h7 h8 h9 h10 m7 m8 m9 m10 z7 z8 z9 z10) 58)) (isB_keeps GW1'.out.keeps _ _ hd) (okBs_mem HOK.out _ hmk) (by omega)
          have XW : Bx (wr.alloc (.cells (bnd11 (str (names[j]'knl)) a h2 m2 z2 k1 xa xm xs h7 h8 h9 h10 m7 m8 m9 m10 z7 z8 z9 z10) 58)) wr.heap.size (bnd11 (str (names[j]'knl)) a h2 m2 z2 k1 xa xm xs h7 h8 h9 h10 m7 m8 m9 m10 z7 z8 z9 z10) 58 := heap_alloc_new wr _
          rw [show n + i + 2 * nmBs (bs.take j) + 2 * nmB (bs[j]'kl) = n + i + 2 * nmBs (bs.take (j + 1)) by omega] at CALL
          generalize names[j]'knl = nm at *
          have y0 := XW.cell 0
          have y1 := XW.cell 1
          have y2 := XW.cell 2
          have y3 := XW.cell 3
          have y4 := XW.cell 4
          have y5 := XW.cell 5
          have y6 := XW.cell 6
          have y7 := XW.cell 7
          have y8 := XW.cell 8
          have y9 := XW.cell 9
          have y10 := XW.cell 10
          clear hx hd hg edn bl XW hmk htk htl
          cases F : chB ds prN tA (scD (plus bd names)) (bs[j]'kl) with
          | none =>
            rw [F] at CALL hst
            rw [orF_left] at hst
            have HT := Hid.mk hst
            clear hst F
            go_wp2_with (go_at_call 60; refine CALL.mono ?_; intro e w8 R8; obtain ⟨rfl, G8, C8⟩ := R8.yes'; have GW3 := Hid.mk (GW1'.out.trans G8); have CW3 := Hid.mk C8; clear R8 G8 C8)
            exact ⟨⟨j + 1, by go_num, by omega, GW3, CW3, HT⟩, by simp [intOf]; omega⟩
          | some q =>
            obtain ⟨qa, qc⟩ := q
            rw [F] at CALL hst
            rw [orF_some] at hst
            have HT := Hid.mk hst
            clear hst F
            go_wp2_with (go_at_call 60; refine CALL.mono ?_; intro e w8 R8; obtain ⟨rfl, G8, C8⟩ := R8.no'; have GW3 := Hid.mk (GW1'.out.trans G8); have CW3 := Hid.mk C8; clear R8 G8 C8)
            go_ret
            rw [HEF.out, orF_left, ← HT.out]
            exact ⟨rfl, GW3.out, CW3.out⟩
        · obtain rfl : j = i := by omega
          have eF : F2 = none := by
            have := HK2.out
            rw [List.drop_eq_nil_of_le (by rw [HK.out]; omega), chBs] at this
            exact this.symm
          have HEF2 := Hid.mk eF
          have C3 : Hid (Cs _ b f m nf (n + j + 2 * nmBs bs) (arityN ds) (plus bd names)) := ⟨by have := CWW.out; rwa [List.take_of_length_le (by rw [HK.out]; omega)] at this⟩
          clear HK2 CWW eF
          go_wp2
          go_ret
          rw [HEF.out, orF_left, HEF2.out]
          exact ⟨rfl, GW.out, C3.out⟩
end Go.Proofs.YtbajpejnnfacbaaGreatDoor

/- Package scope's checker: an XLet. -/
namespace Go.Proofs.YtbajpejnnfacbaaGreatDoor
open Go.RowKit
open Go.Maps (Keyed string_keyed)
set_option linter.unusedVariables false
set_option linter.unusedSimpArgs false

/-- the first of some expressions lies at the head of its row -/
theorem head_cells {w : World} {ok : Nat → Prop} {ks : List E} {xk : List Value} {g6 : Option Addr} {c6 : Nat} (R : IsRow w ok xk ks.length (.slice g6 ks.length c6)) (RK : isEs w ok ks xk) (h : 0 < ks.length) :
    ∃ (p off : Nat) (kk ka km : Int) (kn : ByteArray) (h4 h5 h6 h7 : Option Addr) (m4 m5 m6 m7 z4 z5 z6 z7 : Nat), g6 = some ⟨p, off, none⟩ ∧ ok p ∧ isE w ok (ks[0]'h) (exp8 kk ka km kn h4 h5 h6 h7 m4 m5 m6 m7 z4 z5 z6 z7).toList ∧ ∀ (j : Nat) (u : Value), (exp8 kk ka km kn h4 h5 h6 h7 m4 m5 m6 m7 z4 z5 z6 z7).toList[j]? = some u → w.cell? ⟨p, off + j, none⟩ = some u := by
  obtain ⟨ga, cap, e, hc, hx⟩ := R
  simp only [Value.slice.injEq] at e
  obtain ⟨rfl, _, rfl⟩ := e
  obtain ⟨p, off, rfl, hp, hx⟩ := hx h
  obtain ⟨d, hd, hg⟩ := isEs_get ks xk RK 0 h
  obtain ⟨kk, ka, km, kn, h4, h5, h6, h7, m4, m5, m6, m7, z4, z5, z6, z7, rfl⟩ := isE_eight hd
  refine ⟨p, off, kk, ka, km, kn, h4, h5, h6, h7, m4, m5, m6, m7, z4, z5, z6, z7, rfl, hp, hd, fun j u hj => ?_⟩
  have := hg j u hj
  rw [Nat.zero_mul, Nat.zero_add] at this
  exact hx j u this
set_option maxRecDepth 100000 in
set_option maxHeartbeats 8000000 in
theorem plet_any (bs : List B) (ks : List E) (HB : ∀ x ∈ bs, PB x) (HK : ∀ x ∈ ks, PE x) {w : World} {b f m nf n : Nat} {ds : List D} {bd : Nm → Nat} (h : Cs w b f m nf n (arityN ds) bd) (xk a xm : Int) (s : Nm) (g4 g5 g6 g7 : Option Addr) (n4 n5 n6 n7 c4 c5 c6 c7 : Nat) (xb xks : List Value)
    (e5 : bs.length = n5) (e6 : ks.length = n6) (RB : IsRow w (but3 b f m) xb bs.length (.slice g5 bs.length c5)) (IB : isBs w (but3 b f m) bs xb) (RK : IsRow w (but3 b f m) xks ks.length (.slice g6 ks.length c6)) (IK : isEs w (but3 b f m) ks xks) (ob : okBs bs) (oe : okEs ks) (t : Nat) (hn : n + 2 * bs.length + 2 * nmBs bs + 2 * nmEs ks ≤ t) (ht : t ≤ 1000000000) :
    Calls Tryz.prog 121 #[ptr b, .agg (exp8 xk a xm (str s) g4 g5 g6 g7 n4 n5 n6 n7 c4 c5 c6 c7)] w (Res w b f m nf t (arityN ds) bd (if bs.length = 0 ∨ ks.length = 0 then some (a, 2) else orF (namF [] bs) (orF (chBs ds prN tA (fun x => scD bd x || (bs.map nameB').contains x) bs) (chK ds prN tA (fun x => scD bd x || (bs.map nameB').contains x) ks)))) := by
  have K0 := Joins.below_alloc1 w (.cells (exp8 xk a xm (str s) g4 g5 g6 g7 n4 n5 n6 n7 c4 c5 c6 c7) 53)
  have X0 : Bx (w.alloc (.cells (exp8 xk a xm (str s) g4 g5 g6 g7 n4 n5 n6 n7 c4 c5 c6 c7) 53)) w.heap.size (exp8 xk a xm (str s) g4 g5 g6 g7 n4 n5 n6 n7 c4 c5 c6 c7) 53 := heap_alloc_new w _
  have G0 : Ge b f m w _ := Ge.of_below K0
  have C0 := h.later K0
  have nx := h.new (Nat.le_refl _)
  have y1 := X0.cell 1
  have y5 := X0.cell 5
  have y6 := X0.cell 6
  have GW := Hid.mk G0
  have CW := Hid.mk C0
  have XW := Hid.mk X0
  by_cases q5 : bs.length = 0
  · rw [if_pos (.inl q5)]
    obtain rfl : n5 = 0 := by omega
    clear h C0 X0 K0 G0 RB IB RK IK ob oe HB HK hn
    go_enter Tryz.func121, Tryz.ntmps121
    go_wp2_with (go_at_call 45; refine (pfail_any CW.out a _).mono ?_; rintro e w8 ⟨rfl, G8, C8⟩; have HE := Hid.mk (And.intro (GW.out.trans G8) C8); clear G8 C8)
    go_ret
    exact ⟨rfl, HE.out.1, HE.out.2⟩
  · have b5 : (((n5 : Nat) : Int) == 0) = false := beq_eq_false_iff_ne.2 (by omega)
    by_cases q6 : ks.length = 0
    · rw [if_pos (.inr q6)]
      obtain rfl : n6 = 0 := by omega
      clear h C0 X0 K0 G0 RB IB RK IK ob oe HB HK hn
      go_enter Tryz.func121, Tryz.ntmps121
      go_wp2_with (go_at_call 45; refine (pfail_any CW.out a _).mono ?_; rintro e w8 ⟨rfl, G8, C8⟩; have HE := Hid.mk (And.intro (GW.out.trans G8) C8); clear G8 C8)
      go_ret
      exact ⟨rfl, HE.out.1, HE.out.2⟩
    · rw [if_neg (by omega)]
      have b6 : (((n6 : Nat) : Int) == 0) = false := beq_eq_false_iff_ne.2 (by omega)
      have kp : 0 < ks.length := by omega
      obtain ⟨names, hnm⟩ : ∃ names, bs.map nameB' = names := ⟨_, rfl⟩
      have kk' : names.length = bs.length := by rw [← hnm, List.length_map]
      have hsm : ∀ s ∈ names, s.length ≤ maxLen := fun s hs => by
        rw [← hnm] at hs
        obtain ⟨x, hx, rfl⟩ := List.mem_map.1 hs
        have := okBs_mem ob x hx
        obtain ⟨nm, a, al, y⟩ := x
        simp only [okB] at this
        exact this.1
      have GR := group_any bs HB C0 _ xb (RB.keeps G0.keeps) (isBs_keeps G0.keeps _ _ IB) ob (by omega)
      rw [hnm] at GR
      have NO := fun (W : World) (k : Ge b f m w W) => namesOf_any (w := W) bs _ xb (RB.keeps k.keeps) (isBs_keeps k.keeps _ _ IB)
      rw [hnm] at NO
      obtain ⟨p, off, kk, ka, km, kn, h4, h5, h6, h7, m4, m5, m6, m7, z4, z5, z6, z7, rfl, hp, IK0, hx⟩ := head_cells RK IK kp
      have hmk := List.getElem_mem kp
      have hle := nmEs_le ks 0 kp
      have HX := Hid.mk (fun (W : World) (k : Ge b f m w W) (CC : Cs W b f m nf (n + bs.length + 2 * nmBs bs) (arityN ds) (plus bd names)) => HK _ hmk W b f m nf _ ds _ _ CC (isE_keeps k.keeps _ _ IK0) (okEs_mem oe _ hmk) (by omega))
      have HCL := Hid.mk (fun (W : World) (k : Ge b f m w W) (j : Nat) (u : Value) (hj : (exp8 kk ka km kn h4 h5 h6 h7 m4 m5 m6 m7 z4 z5 z6 z7).toList[j]? = some u) => k.keeps.cell p _ _ hp (hx j u hj))
      have eK : chK ds prN tA (scD (plus bd names)) ks = chE ds prN tA (scD (plus bd names)) (ks[0]'kp) := by
        cases ks with
        | nil => simp at kp
        | cons y r => rw [chK]; rfl
      rw [hnm, ← scD_plus, ← orF_assoc, eK]
      simp only [e5] at GR NO HX
      have HNO := Hid.mk NO
      have HSM := Hid.mk hsm
      have HNL : Hid (names.length = n5) := ⟨kk'.trans e5⟩
      have l5 : n5 ≤ 1000000000 := by omega
      have HLV := Hid.mk (fun (W : World) (CC : Cs W b f m nf (n + n5 + 2 * nmBs bs + 2 * nmE (ks[0]'kp)) (arityN ds) (plus bd names)) (vn : Value) (RR : IsRow W (but3 b f m) (strC names) names.length vn) => pleave_any (bd := bd) names CC vn RR hsm (by omega))
      have htt : n + n5 + 2 * nmBs bs + 2 * nmE (ks[0]'kp) + names.length ≤ t := by omega
      generalize nmBs bs = nb at *
      generalize nmE (ks[0]'kp) = ne at *
      generalize chE ds prN tA (scD (plus bd names)) (ks[0]'kp) = F2 at *
      generalize orF (namF [] bs) (chBs ds prN tA (scD (plus bd names)) bs) = F1 at *
      have l6 : 0 < n6 := by omega
      have l6' : (0 : Int) < n6 := by omega
      clear h C0 X0 K0 G0 RB IB RK IK ob oe HB HK hn NO hsm kk' hnm hmk hle hx IK0 eK q5 q6 hp
      cases F1 with
      | some r =>
        obtain ⟨ra, rc⟩ := r
        rw [orF_some]
        go_enter Tryz.func121, Tryz.ntmps121
        go_wp2_with (go_at_call 43; refine GR.mono ?_; intro e w8 R8; obtain ⟨rfl, G8, C8⟩ := R8.no'; have HE := Hid.mk (And.intro (GW.out.trans G8) C8); clear R8 G8 C8)
        go_ret
        exact ⟨rfl, HE.out.1, HE.out.2⟩
      | none =>
        rw [orF_left]
        cases F2 with
        | some r =>
          obtain ⟨ra, rc⟩ := r
          go_enter Tryz.func121, Tryz.ntmps121
          go_wp2_with (first
            | (go_at_call 108; refine EX.mono ?_; intro e w9 R9; obtain ⟨rfl, G9, C9⟩ := R9.no'; have HE := Hid.mk (And.intro (GW1.out.trans G9) C9); clear R9 G9 C9 EX)
            | (go_at_call 43; refine GR.mono ?_; intro e w8 R8; obtain ⟨rfl, G8, C8⟩ := R8.yes'; have GW1 := Hid.mk (GW.out.trans G8); replace XW := Hid.mk (XW.out.ge G8 nx); have u6 := XW.out.cell 6; have EX := HX.out _ GW1.out C8; have v0 := HCL.out _ GW1.out 0 _ rfl; have v1 := HCL.out _ GW1.out 1 _ rfl; have v2 := HCL.out _ GW1.out 2 _ rfl; have v3 := HCL.out _ GW1.out 3 _ rfl; have v4 := HCL.out _ GW1.out 4 _ rfl; have v5 := HCL.out _ GW1.out 5 _ rfl; have v6 := HCL.out _ GW1.out 6 _ rfl; have v7 := HCL.out _ GW1.out 7 _ rfl; rw [Nat.add_zero] at v0; clear R8 G8 C8))
          go_ret
          exact ⟨rfl, HE.out.1, HE.out.2⟩
        | none =>
          go_enter Tryz.func121, Tryz.ntmps121
          go_wp2_with (first
            | (go_at_call 109; refine LV.mono ?_; rintro e w11 ⟨rfl, G11, C11⟩; have HE := Hid.mk (And.intro (GW3.out.trans G11) (C11.mono htt)); clear G11 C11 LV)
            | (go_at_call 59; refine NN.mono ?_; rintro e w10 ⟨vn, rfl, B10, NW⟩; have GW3 := Hid.mk (GW2.out.trans (Ge.of_below (b := b) (f := f) (m := m) B10)); have LV := HLV.out _ (CW2.out.later B10) vn (NW.row (by rw [HNL.out]; exact l5) (fun g hg => CW2.out.new hg)); clear B10 NW NN)
            | (go_at_call 108; refine EX.mono ?_; intro e w9 R9; obtain ⟨rfl, G9, C9⟩ := R9.yes'; have GW2 := Hid.mk (GW1.out.trans G9); have CW2 := Hid.mk C9; have NN := HNO.out _ GW2.out; replace XW := Hid.mk (XW.out.ge G9 nx); have t5 := XW.out.cell 5; clear R9 G9 C9 EX)
            | (go_at_call 43; refine GR.mono ?_; intro e w8 R8; obtain ⟨rfl, G8, C8⟩ := R8.yes'; have GW1 := Hid.mk (GW.out.trans G8); replace XW := Hid.mk (XW.out.ge G8 nx); have u6 := XW.out.cell 6; have EX := HX.out _ GW1.out C8; have v0 := HCL.out _ GW1.out 0 _ rfl; have v1 := HCL.out _ GW1.out 1 _ rfl; have v2 := HCL.out _ GW1.out 2 _ rfl; have v3 := HCL.out _ GW1.out 3 _ rfl; have v4 := HCL.out _ GW1.out 4 _ rfl; have v5 := HCL.out _ GW1.out 5 _ rfl; have v6 := HCL.out _ GW1.out 6 _ rfl; have v7 := HCL.out _ GW1.out 7 _ rfl; rw [Nat.add_zero] at v0; clear R8 G8 C8))
          go_ret
          exact ⟨rfl, HE.out.1, HE.out.2⟩
end Go.Proofs.YtbajpejnnfacbaaGreatDoor
