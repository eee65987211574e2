/- Package scope: the first double of datas, of binds. -/
import Derived.Test.YtbajpejnnfacbaaGreatDoorPcc
namespace Go.Proofs.YtbajpejnnfacbaaGreatDoor
open Go.RowKit
open Go.Maps (Keyed string_keyed)
set_option linter.unusedVariables false
set_option linter.unusedSimpArgs false

/-- what a key's function leaves: the item's own block too -/
def Kept (wr : World) (X : Nat) (cs : Array Value) (t : TypeId) (w' : World) : Prop := Below X wr w' ∧ Bx w' X cs t
theorem Kept.fresh (wr : World) (cs : Array Value) (t : TypeId) : Kept wr wr.heap.size cs t (wr.alloc (.cells cs t)) := ⟨Joins.below_alloc1 wr _, heap_alloc_new wr _⟩
theorem Kept.later {wr w w' : World} {X : Nat} {cs : Array Value} {t : TypeId} (h : Kept wr X cs t w) (k : Below w.heap.size w w') : Kept wr X cs t w' :=
  ⟨h.1.trans (Joins.below_le k (Nat.le_of_lt h.2.lt)), (k.block X h.2.lt).trans h.2⟩
theorem own_kept {wr w : World} {X z i : Nat} {cs : Array Value} {t : TypeId} {D : DataW Unit} (h : Kept wr X cs t w) (hz : z < X) (hD : wr.ownsMap Tryz.prog 9 (plainElem Tryz.prog 3) z i D) : w.ownsMap Tryz.prog 9 (plainElem Tryz.prog 3) z i D := by
  obtain ⟨es, clock, hb, r⟩ := hD
  exact ⟨es, clock, (h.1.block z hz).trans hb, r⟩
set_option maxHeartbeats 1000000 in
theorem key44 (s : ByteArray) (a t : Int) (w : World) : Calls Tryz.prog 55 #[.agg #[.string s, .int .i64 a, .int .i64 t]] w fun e w' => e = .returned (.string s) ∧ Below w.heap.size w w' := by
  have c0 : (w.alloc (.cells #[.string s, .int .i64 a, .int .i64 t] 112)).cell? ⟨w.heap.size, 0, none⟩ = some (.string s) := Joins.cell_of_block (heap_alloc_new w _) 0
  have HB := Hid.mk (Joins.below_alloc1 w (.cells #[.string s, .int .i64 a, .int .i64 t] 112))
  go_enter Tryz.func55, Tryz.ntmps55
  go_wp2
  go_ret
  exact ⟨rfl, HB.out⟩
set_option maxHeartbeats 1000000 in
theorem key46 (s xs : ByteArray) (a k xa xm : Int) (v2 v7 v8 v9 v10 : Value) (w : World) : Calls Tryz.prog 57 #[.agg #[.string s, .int .i64 a, v2, .int .i64 k, .int .i64 xa, .string xs, .int .i64 xm, v7, v8, v9, v10]] w fun e w' => e = .returned (.string s) ∧ Below w.heap.size w w' := by
  have c0 : (w.alloc (.cells #[.string s, .int .i64 a, v2, .int .i64 k, .int .i64 xa, .string xs, .int .i64 xm, v7, v8, v9, v10] 58)).cell? ⟨w.heap.size, 0, none⟩ = some (.string s) := Joins.cell_of_block (heap_alloc_new w _) 0
  have HB := Hid.mk (Joins.below_alloc1 w (.cells #[.string s, .int .i64 a, v2, .int .i64 k, .int .i64 xa, .string xs, .int .i64 xm, v7, v8, v9, v10] 58))
  go_enter Tryz.func57, Tryz.ntmps57
  go_wp2
  go_ret
  exact ⟨rfl, HB.out⟩
set_option maxHeartbeats 1000000 in
theorem fd43_any {w : World} {ok : Nat → Prop} (ds : List D) (l : List Nm) (el : ds.map (fun d => d.name) = l) (v : Value) (R : IsRow w ok (datC ds) ds.length v) (hl : ∀ s ∈ l, s.length ≤ maxLen) :
    Calls Tryz.prog 54 #[v, .func (.func 55) #[] #[]] w fun e w' => e = .returned (.int .i64 (firstD l)) ∧ Below w.heap.size w w' := by
  obtain ⟨ga, cap, rfl, hc, hx⟩ := R
  obtain ⟨r, hr⟩ : ∃ r, firstD l = r := ⟨_, rfl⟩
  have HR : Hid (fdI (l.take 0) (l.drop 0) 0 = r) := ⟨by rw [List.take_zero, List.drop_zero]; exact hr⟩
  have HX := Hid.mk hx
  have HL := Hid.mk hl
  rw [hr]
  obtain ⟨k, hk⟩ : ∃ k, l.length = k := ⟨_, rfl⟩
  have ek : ds.length = k := by rw [← hk, ← el, List.length_map]
  have HE := Hid.mk el
  have HEK := Hid.mk ek
  have HN := Hid.mk hk
  rw [ek] at hc ⊢
  have S0 : Seen (w.alloc (.map #[] 0)) w.heap.size 0 (l.take 0) := ⟨_, Mp.made w, fun s => by simp⟩
  have B0 := Joins.below_alloc1 w (.map #[] 0)
  have hmm := @run_makeMap Tryz.prog
  clear hx hl hk hr ek el
  go_enter Tryz.func54, Tryz.ntmps54
  go_wp2
  generalize hz : w.heap.size = z at *
  generalize w.alloc (.map #[] 0) = w1 at *
  go_loopw [13] (fun c wr => ∃ i : Nat, c = .int .i64 i ∧ i ≤ k ∧ Below z w wr ∧ Hid (fdI (l.take i) (l.drop i) i = r) ∧ Hid (Seen wr z i (l.take i))) (fun c _ => k - (intOf c).toNat)
  case atStart => exact ⟨0, rfl, Nat.zero_le _, B0, HR, ⟨S0⟩⟩
  case round =>
    obtain ⟨i, rfl, hi, B, HF, HS⟩ := hrel
    by_cases hlt : i < k
    · have kl : i < l.length := by rw [HN.out]; exact hlt
      obtain ⟨p, off, rfl, hp, hx⟩ := HX.out (by rw [HEK.out]; omega)
      have kd : i < ds.length := by rw [HEK.out]; exact hlt
      obtain ⟨g0, g1, g2⟩ := datC_get ds i kd
      have edn : (ds[i]'kd).name = l[i]'kl := by simp only [← HE.out, List.getElem_map]
      rw [edn] at g0
      have bl : ∀ (j : Nat) (u : Value), (datC ds)[j]? = some u → wr.cell? ⟨p, off + j, none⟩ = some u := fun j u hj => (B.cell (by rw [← hz]; exact World.block_lt_of_cell? _ _ (hx j u hj))).trans (hx j u hj)
      have c0 := bl _ _ g0
      have c1 := bl _ _ g1
      have c2 := bl _ _ g2
      rw [← Nat.add_assoc] at c1 c2
      have zl : z < wr.heap.size := by have := HS.out; obtain ⟨_, h, _⟩ := this; exact h.lt
      have hs : (l[i]'kl).length ≤ maxLen := HL.out _ (List.getElem_mem kl)
      obtain ⟨g, ⟨D, hD, q⟩, q0⟩ := HS.out
      have HH : Hid (Maps.has D (.string (l[i]'kl)) = (l.take i).contains (l[i]'kl)) := ⟨(q _).1.trans (q0 _)⟩
      have HQ := Hid.mk q
      have HQ0 := Hid.mk q0
      have hf := HF.out
      rw [List.drop_eq_getElem_cons kl, fdI, ← List.take_succ_eq_append_getElem kl] at hf
      have HT : Hid (l.take i ++ [l[i]'kl] = l.take (i + 1)) := ⟨(List.take_succ_eq_append_getElem kl).symm⟩
      have hlt' : (i : Int) < k := by omega
      generalize (ds[i]'kd).arity = da at c1
      generalize (ds[i]'kd).at' = dt at c2
      clear g0 g1 g2 edn bl
      generalize l[i]'kl = s at *
      have K0 : Kept wr wr.heap.size #[.string (str s), .int .i64 da, .int .i64 dt] 112 (wr.alloc (.cells #[.string (str s), .int .i64 da, .int .i64 dt] 112)) := Kept.fresh _ _ _
      have K := fun W => key44 (str s) da dt W
      have y0 : ∀ W, Kept wr wr.heap.size #[.string (str s), .int .i64 da, .int .i64 dt] 112 W → W.cell? ⟨wr.heap.size, 0, none⟩ = some (.string (str s)) ∧ W.cell? ⟨wr.heap.size, 1, none⟩ = some (.int .i64 da) ∧ W.cell? ⟨wr.heap.size, 2, none⟩ = some (.int .i64 dt) := fun W h => ⟨h.2.cell 0, h.2.cell 1, h.2.cell 2⟩
      obtain ⟨a0, a1, a2⟩ := y0 _ K0
      have HK0 := Hid.mk K0
      have HY := Hid.mk y0
      have HD := Hid.mk hD
      clear hx q q0 K0 y0
      cases e : (l.take i).contains s
      · rw [e, if_neg (by simp)] at hf
        rw [e] at HH
        have HF' := Hid.mk hf
        clear hf e
        go_wp2_with (first
          | (go_at_call 55; refine (K _).mono ?_; rintro e w7 ⟨rfl, B7⟩; have HK2 := Hid.mk (HK1.out.later B7); have hD2 := own_kept HK2.out zl HD.out)
          | (go_at_call 55; refine (K _).mono ?_; rintro e w6 ⟨rfl, B6⟩; have HK1 := Hid.mk (HK0.out.later B6); obtain ⟨b0, b1, b2⟩ := HY.out _ HK1.out; have hD1 := own_kept HK1.out zl HD.out)
          | (at_lookup; refine wpList_lookup_own_ok_int _ rfl _ _ 70 rfl 9 3 .i64 law9 Tryz.underlying70 Tryz.underlying3 (zero3 _) z i D rfl hD1 _ _ rfl (key_str hs) ?_; intro c hat hwc; rw [HH.out])
          | (at_mapUpdate; refine wpList_mapUpdate_own _ rfl _ _ _ 70 rfl 9 3 law9 Tryz.underlying70 _ z i _ rfl hD2 (by unfold maxLen; omega) _ _ _ rfl rfl (key_str hs) _ [] (plainElem_int Tryz.underlying3 (WalkArith.wf_i64 (by omega))) ?_; intro w1 hown1 hgrow1))
        have S1 : Seen w1 z (i + 1) (l.take (i + 1)) := by rw [← HT.out]; exact Seen.grow HQ0.out HQ.out HD.out.isMap hown1
        exact ⟨⟨i + 1, by go_num, by omega, (B.trans (Joins.below_le HK2.out.1 (Nat.le_of_lt zl))).grown hgrow1 (Nat.le_of_lt hD2.lt) (fun j hj => by cases hj; exact Nat.le_refl _), HF', ⟨S1⟩⟩, by simp [intOf]; omega⟩
      · rw [e, if_pos rfl] at hf
        rw [e] at HH
        have HF' := Hid.mk hf
        clear hf e
        go_wp2_with (first
          | (go_at_call 55; refine (K _).mono ?_; rintro e w7 ⟨rfl, B7⟩; have HK2 := Hid.mk (HK1.out.later B7); have hD2 := own_kept HK2.out zl HD.out)
          | (go_at_call 55; refine (K _).mono ?_; rintro e w6 ⟨rfl, B6⟩; have HK1 := Hid.mk (HK0.out.later B6); obtain ⟨b0, b1, b2⟩ := HY.out _ HK1.out; have hD1 := own_kept HK1.out zl HD.out)
          | (at_lookup; refine wpList_lookup_own_ok_int _ rfl _ _ 70 rfl 9 3 .i64 law9 Tryz.underlying70 Tryz.underlying3 (zero3 _) z i D rfl hD1 _ _ rfl (key_str hs) ?_; intro c hat hwc; rw [HH.out]))
        go_ret
        exact ⟨by rw [HF'.out]; rfl, by rw [hz]; exact B.trans (Joins.below_le HK1.out.1 (Nat.le_of_lt zl))⟩
    · obtain rfl : i = k := by omega
      have HT : Hid (r = -1) := ⟨by have := HF.out; rw [List.drop_eq_nil_of_le (by rw [HN.out]; omega), fdI] at this; exact this.symm⟩
      clear HF HS
      go_wp2
      go_ret
      exact ⟨by rw [HT.out]; rfl, by rw [hz]; exact B⟩
theorem isB_ls {w : World} {ok : Nat → Prop} {x : B} {c : List Value} {s : Nm} (h : isB w ok x c) (e : nameB' x = s) : ∃ (a k xa xm : Int) (xs : ByteArray) (v2 v7 v8 v9 v10 : Value),
    c = [.string (str s), .int .i64 a, v2, .int .i64 k, .int .i64 xa, .string xs, .int .i64 xm, v7, v8, v9, v10] ∧ (∃ g n z, v2 = .slice g n z) ∧ (∃ g n z, v7 = .slice g n z) ∧ (∃ g n z, v8 = .slice g n z) ∧ (∃ g n z, v9 = .slice g n z) ∧ (∃ g n z, v10 = .slice g n z) := by
  obtain ⟨n, a, al, k, xa, xn, xm, ts, bs, ks, az⟩ := x
  simp only [isB, isE] at h
  obtain ⟨va, d, rfl, ⟨_, _, rfl, _⟩, vt, vb, vk, vz, xb, xk, xz, rfl, ⟨_, _, rfl, _⟩, ⟨_, _, rfl, _⟩, _, ⟨_, _, rfl, _⟩, _, ⟨_, _, rfl, _⟩, _⟩ := h
  simp only [nameB'] at e
  subst e
  exact ⟨_, _, _, _, _, _, _, _, _, _, rfl, ⟨_, _, _, rfl⟩, ⟨_, _, _, rfl⟩, ⟨_, _, _, rfl⟩, ⟨_, _, _, rfl⟩, ⟨_, _, _, rfl⟩⟩
set_option maxHeartbeats 1000000 in
theorem fd45_any {w : World} {ok : Nat → Prop} (ds : List B) (xb : List Value) (l : List Nm) (el : ds.map nameB' = l) (v : Value) (R : IsRow w ok xb ds.length v) (RB : isBs w ok ds xb) (hl : ∀ s ∈ l, s.length ≤ maxLen) :
    Calls Tryz.prog 56 #[v, .func (.func 57) #[] #[]] w fun e w' => e = .returned (.int .i64 (firstD l)) ∧ Below w.heap.size w w' := by
  obtain ⟨ga, cap, rfl, hc, hx⟩ := R
  have HRB := Hid.mk RB
  clear RB
  obtain ⟨r, hr⟩ : ∃ r, firstD l = r := ⟨_, rfl⟩
  have HR : Hid (fdI (l.take 0) (l.drop 0) 0 = r) := ⟨by rw [List.take_zero, List.drop_zero]; exact hr⟩
  have HX := Hid.mk hx
  have HL := Hid.mk hl
  rw [hr]
  obtain ⟨k, hk⟩ : ∃ k, l.length = k := ⟨_, rfl⟩
  have ek : ds.length = k := by rw [← hk, ← el, List.length_map]
  have HE := Hid.mk el
  have HEK := Hid.mk ek
  have HN := Hid.mk hk
  rw [ek] at hc ⊢
  have S0 : Seen (w.alloc (.map #[] 0)) w.heap.size 0 (l.take 0) := ⟨_, Mp.made w, fun s => by simp⟩
  have B0 := Joins.below_alloc1 w (.map #[] 0)
  have hmm := @run_makeMap Tryz.prog
  clear hx hl hk hr ek el
  go_enter Tryz.func56, Tryz.ntmps56
  go_wp2
  generalize hz : w.heap.size = z at *
  generalize w.alloc (.map #[] 0) = w1 at *
  go_loopw [13] (fun c wr => ∃ i : Nat, c = .int .i64 i ∧ i ≤ k ∧ Below z w wr ∧ Hid (fdI (l.take i) (l.drop i) i = r) ∧ Hid (Seen wr z i (l.take i))) (fun c _ => k - (intOf c).toNat)
  case atStart => exact ⟨0, rfl, Nat.zero_le _, B0, HR, ⟨S0⟩⟩
  case round =>
    obtain ⟨i, rfl, hi, B, HF, HS⟩ := hrel
    by_cases hlt : i < k
    · have kl : i < l.length := by rw [HN.out]; exact hlt
      obtain ⟨p, off, rfl, hp, hx⟩ := HX.out (by rw [HEK.out]; omega)
      have kd : i < ds.length := by rw [HEK.out]; exact hlt
      obtain ⟨d, hd, hg⟩ := isBs_get ds xb HRB.out i kd
      have edn : nameB' (ds[i]'kd) = l[i]'kl := by simp only [← HE.out, List.getElem_map]
      obtain ⟨a, k1, xa, xm, xs, _, _, _, _, _, rfl, ⟨h2, m2, z2, rfl⟩, ⟨h7, m7, z7, rfl⟩, ⟨h8, m8, z8, rfl⟩, ⟨h9, m9, z9, rfl⟩, ⟨h10, m10, z10, rfl⟩⟩ := isB_ls hd edn
      have bl : ∀ (j : Nat) (u : Value), [Value.string (str (l[i]'kl)), .int .i64 a, .slice h2 m2 z2, .int .i64 k1, .int .i64 xa, .string xs, .int .i64 xm, .slice h7 m7 z7, .slice h8 m8 z8, .slice h9 m9 z9, .slice h10 m10 z10][j]? = some u → wr.cell? ⟨p, off + i * 11 + j, none⟩ = some u := fun j u hj => by
        have h0 := hx _ _ (hg j u hj)
        rw [← Nat.add_assoc] at h0
        exact (B.cell (by rw [← hz]; exact World.block_lt_of_cell? _ _ h0)).trans h0
      have c0 := bl 0 _ rfl
      have c1 := bl 1 _ rfl
      have c2 := bl 2 _ rfl
      have c3 := bl 3 _ rfl
      have c4 := bl 4 _ rfl
      have c5 := bl 5 _ rfl
      have c6 := bl 6 _ rfl
      have c7 := bl 7 _ rfl
      have c8 := bl 8 _ rfl
      have c9 := bl 9 _ rfl
      have c10 := bl 10 _ rfl
      rw [Nat.add_zero] at c0
      have zl : z < wr.heap.size := by have := HS.out; obtain ⟨_, h, _⟩ := this; exact h.lt
      have hs : (l[i]'kl).length ≤ maxLen := HL.out _ (List.getElem_mem kl)
      obtain ⟨g, ⟨D, hD, q⟩, q0⟩ := HS.out
      have HH : Hid (Maps.has D (.string (l[i]'kl)) = (l.take i).contains (l[i]'kl)) := ⟨(q _).1.trans (q0 _)⟩
      have HQ := Hid.mk q
      have HQ0 := Hid.mk q0
      have hf := HF.out
      rw [List.drop_eq_getElem_cons kl, fdI, ← List.take_succ_eq_append_getElem kl] at hf
      have HT : Hid (l.take i ++ [l[i]'kl] = l.take (i + 1)) := ⟨(List.take_succ_eq_append_getElem kl).symm⟩
      have hlt' : (i : Int) < k := by omega
      clear hg hd edn bl
      generalize l[i]'kl = s at *
      have K0 : Kept wr wr.heap.size #[.string (str s), .int .i64 a, .slice h2 m2 z2, .int .i64 k1, .int .i64 xa, .string xs, .int .i64 xm, .slice h7 m7 z7, .slice h8 m8 z8, .slice h9 m9 z9, .slice h10 m10 z10] 58 (wr.alloc (.cells #[.string (str s), .int .i64 a, .slice h2 m2 z2, .int .i64 k1, .int .i64 xa, .string xs, .int .i64 xm, .slice h7 m7 z7, .slice h8 m8 z8, .slice h9 m9 z9, .slice h10 m10 z10] 58)) := Kept.fresh _ _ _
      have K := fun W => key46 (str s) xs a k1 xa xm (.slice h2 m2 z2) (.slice h7 m7 z7) (.slice h8 m8 z8) (.slice h9 m9 z9) (.slice h10 m10 z10) W
      have y0 : ∀ W, Kept wr wr.heap.size #[.string (str s), .int .i64 a, .slice h2 m2 z2, .int .i64 k1, .int .i64 xa, .string xs, .int .i64 xm, .slice h7 m7 z7, .slice h8 m8 z8, .slice h9 m9 z9, .slice h10 m10 z10] 58 W → W.cell? ⟨wr.heap.size, 0, none⟩ = some (.string (str s)) ∧ W.cell? ⟨wr.heap.size, 1, none⟩ = some (.int .i64 a) ∧ W.cell? ⟨wr.heap.size, 2, none⟩ = some (.slice h2 m2 z2) ∧ W.cell? ⟨wr.heap.size, 3, none⟩ = some (.int .i64 k1) ∧ W.cell? ⟨wr.heap.size, 4, none⟩ = some (.int .i64 xa) ∧ W.cell? ⟨wr.heap.size, 5, none⟩ = some (.string xs) ∧ W.cell? ⟨wr.heap.size, 6, none⟩ = some (.int .i64 xm) ∧ W.cell? ⟨wr.heap.size, 7, none⟩ = some (.slice h7 m7 z7) ∧ W.cell? ⟨wr.heap.size, 8, none⟩ = some (.slice h8 m8 z8) ∧ W.cell? ⟨wr.heap.size, 9, none⟩ = some (.slice h9 m9 z9) ∧ W.cell? ⟨wr.heap.size, 10, none⟩ = some (.slice h10 m10 z10) := fun W h => ⟨h.2.cell 0, h.2.cell 1, h.2.cell 2, h.2.cell 3, h.2.cell 4, h.2.cell 5, h.2.cell 6, h.2.cell 7, h.2.cell 8, h.2.cell 9, h.2.cell 10⟩
      obtain ⟨a0, a1, a2, a3, a4, a5, a6, a7, a8, a9, a10⟩ := y0 _ K0
      have HK0 := Hid.mk K0
      have HY := Hid.mk y0
      have HD := Hid.mk hD
      clear hx q q0 K0 y0
      cases e : (l.take i).contains s
      · rw [e, if_neg (by simp)] at hf
        rw [e] at HH
        have HF' := Hid.mk hf
        clear hf e
        go_wp2_with (first
          | (go_at_call 57; refine (K _).mono ?_; rintro e w7 ⟨rfl, B7⟩; have HK2 := Hid.mk (HK1.out.later B7); have hD2 := own_kept HK2.out zl HD.out)
          | (go_at_call 57; refine (K _).mono ?_; rintro e w6 ⟨rfl, B6⟩; have HK1 := Hid.mk (HK0.out.later B6); obtain ⟨b0, b1, b2, b3, b4, b5, b6, b7, b8, b9, b10⟩ := HY.out _ HK1.out; have hD1 := own_kept HK1.out zl HD.out)
          | (at_lookup; refine wpList_lookup_own_ok_int _ rfl _ _ 70 rfl 9 3 .i64 law9 Tryz.underlying70 Tryz.underlying3 (zero3 _) z i D rfl hD1 _ _ rfl (key_str hs) ?_; intro c hat hwc; rw [HH.out])
          | (at_mapUpdate; refine wpList_mapUpdate_own _ rfl _ _ _ 70 rfl 9 3 law9 Tryz.underlying70 _ z i _ rfl hD2 (by unfold maxLen; omega) _ _ _ rfl rfl (key_str hs) _ [] (plainElem_int Tryz.underlying3 (WalkArith.wf_i64 (by omega))) ?_; intro w1 hown1 hgrow1))
        have S1 : Seen w1 z (i + 1) (l.take (i + 1)) := by rw [← HT.out]; exact Seen.grow HQ0.out HQ.out HD.out.isMap hown1
        exact ⟨⟨i + 1, by go_num, by omega, (B.trans (Joins.below_le HK2.out.1 (Nat.le_of_lt zl))).grown hgrow1 (Nat.le_of_lt hD2.lt) (fun j hj => by cases hj; exact Nat.le_refl _), HF', ⟨S1⟩⟩, by simp [intOf]; omega⟩
      · rw [e, if_pos rfl] at hf
        rw [e] at HH
        have HF' := Hid.mk hf
        clear hf e
        go_wp2_with (first
          | (go_at_call 57; refine (K _).mono ?_; rintro e w7 ⟨rfl, B7⟩; have HK2 := Hid.mk (HK1.out.later B7); have hD2 := own_kept HK2.out zl HD.out)
          | (go_at_call 57; refine (K _).mono ?_; rintro e w6 ⟨rfl, B6⟩; have HK1 := Hid.mk (HK0.out.later B6); obtain ⟨b0, b1, b2, b3, b4, b5, b6, b7, b8, b9, b10⟩ := HY.out _ HK1.out; have hD1 := own_kept HK1.out zl HD.out)
          | (at_lookup; refine wpList_lookup_own_ok_int _ rfl _ _ 70 rfl 9 3 .i64 law9 Tryz.underlying70 Tryz.underlying3 (zero3 _) z i D rfl hD1 _ _ rfl (key_str hs) ?_; intro c hat hwc; rw [HH.out]))
        go_ret
        exact ⟨by rw [HF'.out]; rfl, by rw [hz]; exact B.trans (Joins.below_le HK1.out.1 (Nat.le_of_lt zl))⟩
    · obtain rfl : i = k := by omega
      have HT : Hid (r = -1) := ⟨by have := HF.out; rw [List.drop_eq_nil_of_le (by rw [HN.out]; omega), fdI] at this; exact this.symm⟩
      clear HF HS
      go_wp2
      go_ret
      exact ⟨by rw [HT.out]; rfl, by rw [hz]; exact B⟩
end Go.Proofs.YtbajpejnnfacbaaGreatDoor
