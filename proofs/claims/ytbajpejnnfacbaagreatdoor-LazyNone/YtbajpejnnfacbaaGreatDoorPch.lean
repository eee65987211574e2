/- Package scope: patterns of alternatives; the first double among them. -/
import Derived.Test.YtbajpejnnfacbaaGreatDoorPcg
import Derived.DeepKeys4
import Derived.KernelRfl
namespace Go.Proofs.YtbajpejnnfacbaaGreatDoor
open Go.RowKit
open Go.Maps (Keyed string_keyed)
set_option linter.unusedVariables false
set_option linter.unusedSimpArgs false

/-- a pattern: its kind, its name, its number -/
abbrev PK := Int × Nm × Int
def patK (k : Int) (s : Nm) (n : Int) : PK := if k = 1 then (1, s, 0) else if k = 2 then (2, [], n) else (k, [], 0)
def patA : A → PK | .mk k _ s n _ _ => patK k s n
abbrev patV (p : PK) : Value := .agg #[.int .i64 p.1, .string (str p.2.1), .int .i64 p.2.2]
def okP (p : PK) : Prop := (Lit.int .i64 p.1).wf = true ∧ p.2.1.length ≤ maxLen ∧ (Lit.int .i64 p.2.2).wf = true
def litP (p : PK) : Lit := .string (keyBytes [.int .i64 p.1, .string p.2.1, .int .i64 p.2.2])
theorem laidOut : laidOutB Tryz.prog = true := by kernel_rfl
theorem row123 : (207 : TypeId) < Tryz.prog.types.size := of_decide_eq_true (by kernel_rfl)
theorem kt123 : Tryz.prog.keyTypeAt 2 207 = true := by kernel_rfl
theorem klaw123 : WideMaps.KeyLaw Tryz.prog 207 := deep_law_laid laidOut (m := 2) (by omega) row123 kt123 (by rw [Tryz.underlying207])
theorem law123 : Keyed Tryz.prog 207 := Keyed.of_law klaw123
theorem key_pat {p : PK} (h : okP p) : keyOf Tryz.prog 207 (patV p) = some (litP p) := by
  obtain ⟨k, s, n⟩ := p
  obtain ⟨h1, h2, h3⟩ := h
  simp only at h1 h2 h3
  have hm : ∃ m, Tryz.prog.types.size = m + 1 := ⟨226, by kernel_rfl⟩
  obtain ⟨m, hm⟩ := hm
  have kt : Tryz.prog.keyType 207 = true := by kernel_rfl
  have c123 : Tryz.prog.cellsOf 207 = 3 := by kernel_rfl
  have c3 : Tryz.prog.cellsOf 3 = 1 := by kernel_rfl
  have c9 : Tryz.prog.cellsOf 9 = 1 := by kernel_rfl
  have c2 : Tryz.prog.cellsOf 2 = 1 := by kernel_rfl
  have fm : (patV (k, s, n)).formed Tryz.prog 207 = true := by simp [Value.formed, Tryz.underlying207, c123]
  have hs : (str s).size ≤ maxLen := by rw [str_size]; exact h2
  have kl : Tryz.prog.keyLits (Tryz.prog.types.size + 1) 207 (patV (k, s, n)).cells.toList = some [.int .i64 k, .string s, .int .i64 n] := by
    rw [hm]
    simp [Program.keyLits, Tryz.underlying207, Tryz.underlying3, Tryz.underlying9, Tryz.underlying2, Value.cells, c123, c3, c9, c2, h1, h3, hs, str_list]
  unfold keyOf
  rw [Tryz.underlying207]
  simp only
  rw [kt, fm, kl]
  rfl
theorem litP_inj {p q : PK} (hp : okP p) (hq : okP q) (e : litP p = litP q) : p = q := by
  have a := key_pat hp
  rw [e] at a
  have := klaw123.inj a (key_pat hq)
  obtain ⟨k, s, n⟩ := p
  obtain ⟨k', s', n'⟩ := q
  simp only [patV, Value.agg.injEq, Array.mk.injEq, List.cons.injEq, Value.int.injEq, Value.string.injEq, true_and, and_true] at this
  obtain ⟨rfl, e2, rfl⟩ := this
  rw [show s = s' from str_inj e2]
/-- the patterns that have been met -/
def SeenP (w : World) (z i : Nat) (l : List PK) : Prop := ∃ D : DataW Unit, w.ownsMap Tryz.prog 207 (plainElem Tryz.prog 3) z i D ∧ ∀ p, okP p → Maps.has D (litP p) = l.contains p
theorem SeenP.made (w : World) : SeenP (w.alloc (.map #[] 0)) w.heap.size 0 [] := ⟨.map [], World.ownsMap_made w _ _ _, fun s _ => rfl⟩
theorem SeenP.grow {w' : World} {z i : Nat} {l : List PK} {D : DataW Unit} {s : PK} {v : DataW Unit} (hs : okP s) (q : ∀ p, okP p → Maps.has D (litP p) = l.contains p) (hm : Maps.IsMap D)
    (hw : w'.ownsMap Tryz.prog 207 (plainElem Tryz.prog 3) z i (D.put (litP s) v)) : SeenP w' z i (l ++ [s]) := by
  refine ⟨_, hw, fun x hx => ?_⟩
  have e0 : (l ++ [s]).contains x = (l.contains x || x == s) := by
    rw [List.contains_eq_any_beq, List.any_append, ← List.contains_eq_any_beq]; simp
  rw [e0]
  by_cases e : x = s
  · subst e; rw [Maps.has_put_same hm (by trivial)]; simp
  · rw [Maps.has_put_other (fun z => e (litP_inj hx hs z)), q x hx, show (x == s) = false from beq_eq_false_iff_ne.2 e, Bool.or_false]
theorem own_keptP {wr w : World} {X z i : Nat} {cs : Array Value} {t : TypeId} {D : DataW Unit} (h : Kept wr X cs t w) (hz : z < X) (hD : wr.ownsMap Tryz.prog 207 (plainElem Tryz.prog 3) z i D) : w.ownsMap Tryz.prog 207 (plainElem Tryz.prog 3) z i D := by
  obtain ⟨es, clock, hb, r⟩ := hD
  exact ⟨es, clock, (h.1.block z hz).trans hb, r⟩
theorem size123 : (Tryz.prog.info? 207).map (·.size) = some 3 := by kernel_rfl
abbrev alt13 (k a n k1 xa xm : Int) (s xs : ByteArray) (h4 h9 h10 h11 h12 : Option Addr) (m4 m9 m10 m11 m12 z4 z9 z10 z11 z12 : Nat) : Array Value := #[.int .i64 k, .int .i64 a, .string s, .int .i64 n, .slice h4 m4 z4, .int .i64 k1, .int .i64 xa, .string xs, .int .i64 xm, .slice h9 m9 z9, .slice h10 m10 z10, .slice h11 m11 z11, .slice h12 m12 z12]
set_option maxHeartbeats 2000000 in
theorem pattern_any (k a n k1 xa xm : Int) (s : Nm) (xs : ByteArray) (h4 h9 h10 h11 h12 : Option Addr) (m4 m9 m10 m11 m12 z4 z9 z10 z11 z12 : Nat) (w : World) :
    Calls Tryz.prog 134 #[.agg (alt13 k a n k1 xa xm (str s) xs h4 h9 h10 h11 h12 m4 m9 m10 m11 m12 z4 z9 z10 z11 z12)] w fun e w' => e = .returned (patV (patK k s n)) ∧ Below w.heap.size w w' := by
  have X1 : Bx (w.alloc (.cells (alt13 k a n k1 xa xm (str s) xs h4 h9 h10 h11 h12 m4 m9 m10 m11 m12 z4 z9 z10 z11 z12) 95)) w.heap.size (alt13 k a n k1 xa xm (str s) xs h4 h9 h10 h11 h12 m4 m9 m10 m11 m12 z4 z9 z10 z11 z12) 95 := heap_alloc_new w _
  have X2 := ((Joins.below_alloc1 (w.alloc (.cells (alt13 k a n k1 xa xm (str s) xs h4 h9 h10 h11 h12 m4 m9 m10 m11 m12 z4 z9 z10 z11 z12) 95)) (.cells #[.int .i64 0, .string ⟨#[]⟩, .int .i64 0] 207)).block _ X1.lt).trans X1
  have B2 := (Joins.below_alloc1 w (.cells (alt13 k a n k1 xa xm (str s) xs h4 h9 h10 h11 h12 m4 m9 m10 m11 m12 z4 z9 z10 z11 z12) 95))
  have y0 := (show Bx _ w.heap.size _ 95 from X2).cell 0
  have y2 := (show Bx _ w.heap.size _ 95 from X2).cell 2
  have y3 := (show Bx _ w.heap.size _ 95 from X2).cell 3
  have HB := Hid.mk B2
  clear X1 X2 B2
  unfold patK
  by_cases q1 : k = 1
  · subst q1
    rw [if_pos rfl]
    go_enter Tryz.func134, Tryz.ntmps134
    go_wp2
    exact bodyPost_ret (results_cell_row Tryz.results134 _ _ (w.heap.size + 1) 207 #[.int .i64 1, .string (str s), .int .i64 0] (0, 0) _ rfl (by have := heap_alloc_new (w.alloc (.cells (alt13 1 a n k1 xa xm (str s) xs h4 h9 h10 h11 h12 m4 m9 m10 m11 m12 z4 z9 z10 z11 z12) 95)) (.cells #[.int .i64 1, .string (str s), .int .i64 0] 207); rwa [World.size_alloc] at this) Tryz.underlying207 rfl size123) rfl ⟨rfl, by go_grown⟩
  · rw [if_neg q1]
    by_cases q2 : k = 2
    · subst q2
      rw [if_pos rfl]
      go_enter Tryz.func134, Tryz.ntmps134
      go_wp2
      exact bodyPost_ret (results_cell_row Tryz.results134 _ _ (w.heap.size + 1) 207 #[.int .i64 2, .string ⟨#[]⟩, .int .i64 n] (0, 0) _ rfl (by have := heap_alloc_new (w.alloc (.cells (alt13 2 a n k1 xa xm (str s) xs h4 h9 h10 h11 h12 m4 m9 m10 m11 m12 z4 z9 z10 z11 z12) 95)) (.cells #[.int .i64 2, .string ⟨#[]⟩, .int .i64 n] 207); rwa [World.size_alloc] at this) Tryz.underlying207 rfl size123) rfl ⟨rfl, by go_grown⟩
    · rw [if_neg q2]
      have e1 : (k == 1) = false := by simpa using q1
      have e2 : (k == 2) = false := by simpa using q2
      go_enter Tryz.func134, Tryz.ntmps134
      go_wp2
      exact bodyPost_ret (results_cell_row Tryz.results134 _ _ (w.heap.size + 1) 207 #[.int .i64 k, .string ⟨#[]⟩, .int .i64 0] (0, 0) _ rfl (by have := heap_alloc_new (w.alloc (.cells (alt13 k a n k1 xa xm (str s) xs h4 h9 h10 h11 h12 m4 m9 m10 m11 m12 z4 z9 z10 z11 z12) 95)) (.cells #[.int .i64 k, .string ⟨#[]⟩, .int .i64 0] 207); rwa [World.size_alloc] at this) Tryz.underlying207 rfl size123) rfl ⟨rfl, by go_grown⟩
theorem isA_ls {w : World} {ok : Nat → Prop} {x : A} {c : List Value} {q : PK} (h : isA w ok x c) (e : patA x = q) : ∃ (k a n : Int) (s : Nm) (k1 xa xm : Int) (xs : ByteArray) (h4 h9 h10 h11 h12 : Option Addr) (m4 m9 m10 m11 m12 z4 z9 z10 z11 z12 : Nat),
    c = (alt13 k a n k1 xa xm (str s) xs h4 h9 h10 h11 h12 m4 m9 m10 m11 m12 z4 z9 z10 z11 z12).toList ∧ patK k s n = q := by
  obtain ⟨k, a, n, m, vs, k1, xa, xn, xm, ts, bs, ks, az⟩ := x
  simp only [isA, isE] at h
  obtain ⟨va, d, rfl, ⟨_, _, rfl, _⟩, vt, vb, vk, vz, xb, xk, xz, rfl, ⟨_, _, rfl, _⟩, ⟨_, _, rfl, _⟩, _, ⟨_, _, rfl, _⟩, _, ⟨_, _, rfl, _⟩, _⟩ := h
  exact ⟨_, _, _, _, _, _, _, _, _, _, _, _, _, _, _, _, _, _, _, _, _, _, _, rfl, e⟩
set_option maxHeartbeats 1000000 in
theorem fd86_any {w : World} {ok : Nat → Prop} (ds : List A) (xb : List Value) (l : List PK) (el : ds.map patA = l) (v : Value) (R : IsRow w ok xb ds.length v) (RB : isAs w ok ds xb) (hl : ∀ s ∈ l, okP s) :
    Calls Tryz.prog 133 #[v, .func (.func 134) #[] #[]] w fun e w' => e = .returned (.int .i64 (firstD l)) ∧ Below w.heap.size w w' := by
  obtain ⟨ga, cap, rfl, hc, hx⟩ := R
  have HRB := Hid.mk RB
  clear RB
  obtain ⟨r, hr⟩ : ∃ r, firstD l = r := ⟨_, rfl⟩
  have HR : Hid (fdI (l.take 0) (l.drop 0) 0 = r) := ⟨by rw [List.take_zero, List.drop_zero]; exact hr⟩
  have HX := Hid.mk hx
  have HL := Hid.mk hl
  rw [hr]
  obtain ⟨k, hk⟩ : ∃ k, l.length = k := ⟨_, rfl⟩
  have ek : ds.length = k := by rw [← hk, ← el, List.length_map]
  have HE := Hid.mk el
  have HEK := Hid.mk ek
  have HN := Hid.mk hk
  rw [ek] at hc ⊢
  have S0 : SeenP (w.alloc (.map #[] 0)) w.heap.size 0 (l.take 0) := by rw [List.take_zero]; exact SeenP.made w
  have B0 := Joins.below_alloc1 w (.map #[] 0)
  have hmm := @run_makeMap Tryz.prog
  clear hx hl hk hr ek el
  go_enter Tryz.func133, Tryz.ntmps133
  go_wp2
  generalize hz : w.heap.size = z at *
  generalize w.alloc (.map #[] 0) = w1 at *
  go_loopw [13] (fun c wr => ∃ i : Nat, c = .int .i64 i ∧ i ≤ k ∧ Below z w wr ∧ Hid (fdI (l.take i) (l.drop i) i = r) ∧ Hid (SeenP wr z i (l.take i))) (fun c _ => k - (intOf c).toNat)
  case atStart => exact ⟨0, rfl, Nat.zero_le _, B0, HR, ⟨S0⟩⟩
  case round =>
    obtain ⟨i, rfl, hi, B, HF, HS⟩ := hrel
    by_cases hlt : i < k
    · have kl : i < l.length := by rw [HN.out]; exact hlt
      obtain ⟨p, off, rfl, hp, hx⟩ := HX.out (by rw [HEK.out]; omega)
      have kd : i < ds.length := by rw [HEK.out]; exact hlt
      obtain ⟨d, hd, hg⟩ := isAs_get ds xb HRB.out i kd
      have edn : patA (ds[i]'kd) = l[i]'kl := by simp only [← HE.out, List.getElem_map]
      obtain ⟨k0, a0, n0, s0, k1, xa, xm, xs, h4, h9, h10, h11, h12, m4, m9, m10, m11, m12, z4, z9, z10, z11, z12, rfl, ep⟩ := isA_ls hd edn
      have bl : ∀ (j : Nat) (u : Value), (alt13 k0 a0 n0 k1 xa xm (str s0) xs h4 h9 h10 h11 h12 m4 m9 m10 m11 m12 z4 z9 z10 z11 z12).toList[j]? = some u → wr.cell? ⟨p, off + i * 13 + j, none⟩ = some u := fun j u hj => by
        have h0 := hx _ _ (hg j u hj)
        rw [← Nat.add_assoc] at h0
        exact (B.cell (by rw [← hz]; exact World.block_lt_of_cell? _ _ h0)).trans h0
      have c0 := bl 0 _ rfl
      have c1 := bl 1 _ rfl
      have c2 := bl 2 _ rfl
      have c3 := bl 3 _ rfl
      have c4 := bl 4 _ rfl
      have c5 := bl 5 _ rfl
      have c6 := bl 6 _ rfl
      have c7 := bl 7 _ rfl
      have c8 := bl 8 _ rfl
      have c9 := bl 9 _ rfl
      have c10 := bl 10 _ rfl
      have c11 := bl 11 _ rfl
      have c12 := bl 12 _ rfl
      rw [Nat.add_zero] at c0
      have zl : z < wr.heap.size := by have := HS.out; obtain ⟨_, h, _⟩ := this; exact h.lt
      have hs : okP (l[i]'kl) := HL.out _ (List.getElem_mem kl)
      obtain ⟨D, hD, q⟩ := HS.out
      have HH : Hid (Maps.has D (litP (l[i]'kl)) = (l.take i).contains (l[i]'kl)) := ⟨q _ hs⟩
      have HQ := Hid.mk q
      have hf := HF.out
      rw [List.drop_eq_getElem_cons kl, fdI, ← List.take_succ_eq_append_getElem kl] at hf
      have HT : Hid (l.take i ++ [l[i]'kl] = l.take (i + 1)) := ⟨(List.take_succ_eq_append_getElem kl).symm⟩
      have hlt' : (i : Int) < k := by omega
      clear hg hd edn bl
      generalize l[i]'kl = s at *
      have K0 : Kept wr wr.heap.size (alt13 k0 a0 n0 k1 xa xm (str s0) xs h4 h9 h10 h11 h12 m4 m9 m10 m11 m12 z4 z9 z10 z11 z12) 95 (wr.alloc (.cells (alt13 k0 a0 n0 k1 xa xm (str s0) xs h4 h9 h10 h11 h12 m4 m9 m10 m11 m12 z4 z9 z10 z11 z12) 95)) := Kept.fresh _ _ _
      have K := fun W => pattern_any k0 a0 n0 k1 xa xm s0 xs h4 h9 h10 h11 h12 m4 m9 m10 m11 m12 z4 z9 z10 z11 z12 W
      rw [ep] at K
      have y0 : ∀ W, Kept wr wr.heap.size (alt13 k0 a0 n0 k1 xa xm (str s0) xs h4 h9 h10 h11 h12 m4 m9 m10 m11 m12 z4 z9 z10 z11 z12) 95 W → W.cell? ⟨wr.heap.size, 0, none⟩ = some (.int .i64 k0) ∧ W.cell? ⟨wr.heap.size, 1, none⟩ = some (.int .i64 a0) ∧ W.cell? ⟨wr.heap.size, 2, none⟩ = some (.string (str s0)) ∧ W.cell? ⟨wr.heap.size, 3, none⟩ = some (.int .i64 n0) ∧ W.cell? ⟨wr.heap.size, 4, none⟩ = some (.slice h4 m4 z4) ∧ W.cell? ⟨wr.heap.size, 5, none⟩ = some (.int .i64 k1) ∧ W.cell? ⟨wr.heap.size, 6, none⟩ = some (.int .i64 xa) ∧ W.cell? ⟨wr.heap.size, 7, none⟩ = some (.string xs) ∧ W.cell? ⟨wr.heap.size, 8, none⟩ = some (.int .i64 xm) ∧ W.cell? ⟨wr.heap.size, 9, none⟩ = some (.slice h9 m9 z9) ∧ W.cell? ⟨wr.heap.size, 10, none⟩ = some (.slice h10 m10 z10) ∧ W.cell? ⟨wr.heap.size, 11, none⟩ = some (.slice h11 m11 z11) ∧ W.cell? ⟨wr.heap.size, 12, none⟩ = some (.slice h12 m12 z12) := fun W h => ⟨h.2.cell 0, h.2.cell 1, h.2.cell 2, h.2.cell 3, h.2.cell 4, h.2.cell 5, h.2.cell 6, h.2.cell 7, h.2.cell 8, h.2.cell 9, h.2.cell 10, h.2.cell 11, h.2.cell 12⟩
      obtain ⟨e0, e1, e2, e3, e4, e5, e6, e7, e8, e9, e10, e11, e12⟩ := y0 _ K0
      have HK0 := Hid.mk K0
      have HY := Hid.mk y0
      have HD := Hid.mk hD
      clear hx q K0 y0
      cases e : (l.take i).contains s
      · rw [e, if_neg (by simp)] at hf
        rw [e] at HH
        have HF' := Hid.mk hf
        clear hf e
        go_wp2_with (first
          | (go_at_call 134; refine (K _).mono ?_; rintro e w7 ⟨rfl, B7⟩; have HK2 := Hid.mk (HK1.out.later B7); have hD2 := own_keptP HK2.out zl HD.out)
          | (go_at_call 134; refine (K _).mono ?_; rintro e w6 ⟨rfl, B6⟩; have HK1 := Hid.mk (HK0.out.later B6); obtain ⟨b0, b1, b2, b3, b4, b5, b6, b7, b8, b9, b10, b11, b12⟩ := HY.out _ HK1.out; have hD1 := own_keptP HK1.out zl HD.out)
          | (at_lookup; refine wpList_lookup_own_ok_int _ rfl _ _ 210 rfl 207 3 .i64 law123 Tryz.underlying210 Tryz.underlying3 (zero3 _) z i D rfl hD1 _ _ rfl (key_pat hs) ?_; intro c hat hwc; rw [HH.out])
          | (at_mapUpdate; refine wpList_mapUpdate_own _ rfl _ _ _ 210 rfl 207 3 law123 Tryz.underlying210 _ z i _ rfl hD2 (by unfold maxLen; omega) _ _ _ rfl rfl (key_pat hs) _ [] (plainElem_int Tryz.underlying3 (WalkArith.wf_i64 (by omega))) ?_; intro w1 hown1 hgrow1))
        have S1 : SeenP w1 z (i + 1) (l.take (i + 1)) := by rw [← HT.out]; exact SeenP.grow hs HQ.out HD.out.isMap hown1
        exact ⟨⟨i + 1, by go_num, by omega, (B.trans (Joins.below_le HK2.out.1 (Nat.le_of_lt zl))).grown hgrow1 (Nat.le_of_lt hD2.lt) (fun j hj => by cases hj; exact Nat.le_refl _), HF', ⟨S1⟩⟩, by simp [intOf]; omega⟩
      · rw [e, if_pos rfl] at hf
        rw [e] at HH
        have HF' := Hid.mk hf
        clear hf e
        go_wp2_with (first
          | (go_at_call 134; refine (K _).mono ?_; rintro e w7 ⟨rfl, B7⟩; have HK2 := Hid.mk (HK1.out.later B7); have hD2 := own_keptP HK2.out zl HD.out)
          | (go_at_call 134; refine (K _).mono ?_; rintro e w6 ⟨rfl, B6⟩; have HK1 := Hid.mk (HK0.out.later B6); obtain ⟨b0, b1, b2, b3, b4, b5, b6, b7, b8, b9, b10, b11, b12⟩ := HY.out _ HK1.out; have hD1 := own_keptP HK1.out zl HD.out)
          | (at_lookup; refine wpList_lookup_own_ok_int _ rfl _ _ 210 rfl 207 3 .i64 law123 Tryz.underlying210 Tryz.underlying3 (zero3 _) z i D rfl hD1 _ _ rfl (key_pat hs) ?_; intro c hat hwc; rw [HH.out]))
        go_ret
        exact ⟨by rw [HF'.out]; rfl, by rw [hz]; exact B.trans (Joins.below_le HK1.out.1 (Nat.le_of_lt zl))⟩
    · obtain rfl : i = k := by omega
      have HT : Hid (r = -1) := ⟨by have := HF.out; rw [List.drop_eq_nil_of_le (by rw [HN.out]; omega), fdI] at this; exact this.symm⟩
      clear HF HS
      go_wp2
      go_ret
      exact ⟨by rw [HT.out]; rfl, by rw [hz]; exact B⟩
end Go.Proofs.YtbajpejnnfacbaaGreatDoor
