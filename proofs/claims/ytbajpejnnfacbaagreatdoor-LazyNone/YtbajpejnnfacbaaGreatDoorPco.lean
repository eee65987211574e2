/- Package scope's checker: alternatives, one behind the other. -/
import Derived.Test.YtbajpejnnfacbaaGreatDoorPcn
import Derived.Test.YtbajpejnnfacbaaGreatDoorScr
namespace Go.Proofs.YtbajpejnnfacbaaGreatDoor
open Go.RowKit
open Go.Maps (Keyed string_keyed)
set_option linter.unusedVariables false
set_option linter.unusedSimpArgs false

/-- what the program tells of an alternative of which it knows whether its pattern stood ahead -/
def altX (ds : List D) (bd : Nm → Nat) (k a : Int) (s : Nm) (vs : List Nm) (q : Bool) (x : E) : Flt :=
  if k = 1 then orF (orF (conF a (arityN ds s) vs.length) (orF (unF a vs) (if q = true then some (a, 30) else none))) (chE ds prN tA (scD (plus bd vs)) x)
  else if k = 2 then orF (if q = true then some (a, 30) else none) (chE ds prN tA (scD bd) x)
  else if k = 3 then orF (unF a [s]) (chE ds prN tA (scD (plus bd [s])) x)
  else some (a, 2)
def kA : A → Int | .mk k _ _ _ _ _ => k
theorem unF_one (a : Int) (s : Nm) : unF a [s] = if s = [] then some (a, 31) else none := by
  unfold unF
  by_cases e : s = []
  · rw [if_pos e, if_pos (by rw [e]; rfl)]
  · rw [if_neg e, if_neg (by simp; exact e), if_neg (by simp [twiceN])]
theorem altX_ch (ds : List D) (bd : Nm → Nat) (ahead : List Hd3) (k a : Int) (s : Nm) (m : Int) (vs : List Nm) (q : Bool) (x : E) (h3 : ahead.any (fun h => h.kind == 3) = false) (q1 : k = 1 → q = ahead.any (fun h => h.kind == 1 && h.name == s)) (q2 : k = 2 → q = ahead.any (fun h => h.kind == 2 && h.num == m)) :
    chA ds prN tA (scD bd) ahead (.mk k a s m vs x) = altX ds bd k a s vs q x := by
  rw [chA, altX]
  unfold altF altS
  rw [if_neg (by rw [h3]; simp)]
  by_cases k1 : k = 1
  · simp only [k1, if_true]
    rw [scD_plus, ← q1 k1]
    congr 1
    unfold conF unF
    cases e : arityN ds s with
    | none => rfl
    | some r =>
      by_cases z : r = vs.length
      · simp only [z, ne_eq, not_true_eq_false, if_false, if_true, orF_left]
        by_cases c1 : vs.contains [] = true
        · rw [if_pos c1, if_pos c1]; rfl
        · rw [if_neg c1, if_neg c1]
          by_cases c2 : twiceN vs = true
          · rw [if_pos c2, if_pos c2]; rfl
          · rw [if_neg c2, if_neg c2]; rfl
      · simp only [z, ne_eq, not_false_eq_true, if_true, if_false]; rfl
  · rw [if_neg k1, if_neg k1, if_neg k1]
    by_cases k2 : k = 2
    · have k3 : ¬ k = 3 := by omega
      rw [if_pos k2, if_pos k2, if_neg k3, ← q2 k2]
    · rw [if_neg k2, if_neg k2]
      by_cases k3 : k = 3
      · rw [if_pos k3, if_pos k3, if_pos k3, unF_one, scD_plus]
        congr 1
        congr 1
        funext y
        rw [List.contains_cons, List.contains_nil, Bool.or_false, eqb_comm]
      · rw [if_neg k3, if_neg k3, if_neg k3]; rfl
theorem pat_one (l : List A) (s : Nm) : (l.map patA).contains (1, s, 0) = (l.map hdA).any (fun h => h.kind == 1 && h.name == s) := by
  induction l with
  | nil => rfl
  | cons x r ih =>
    rw [List.map_cons, List.contains_cons, ih, List.map_cons, List.any_cons]
    congr 1
    obtain ⟨k, a, n, m, vs, y⟩ := x
    simp only [patA, hdA, patK]
    rw [Bool.eq_iff_iff]
    simp only [beq_iff_eq, Bool.and_eq_true]
    by_cases k1 : k = 1
    · rw [if_pos k1]
      exact ⟨fun h => ⟨k1, (Prod.mk.inj (Prod.mk.inj h).2).1.symm⟩, fun h => by rw [h.2]⟩
    · rw [if_neg k1]
      by_cases k2 : k = 2
      · rw [if_pos k2]
        exact ⟨fun h => absurd (Prod.mk.inj h).1 (by decide), fun h => absurd h.1 k1⟩
      · rw [if_neg k2]
        exact ⟨fun h => absurd (Prod.mk.inj h).1.symm k1, fun h => absurd h.1 k1⟩
theorem pat_two (l : List A) (m : Int) : (l.map patA).contains (2, [], m) = (l.map hdA).any (fun h => h.kind == 2 && h.num == m) := by
  induction l with
  | nil => rfl
  | cons x r ih =>
    rw [List.map_cons, List.contains_cons, ih, List.map_cons, List.any_cons]
    congr 1
    obtain ⟨k, a, n, m', vs, y⟩ := x
    simp only [patA, hdA, patK]
    rw [Bool.eq_iff_iff]
    simp only [beq_iff_eq, Bool.and_eq_true]
    by_cases k1 : k = 1
    · rw [if_pos k1]
      exact ⟨fun h => absurd (Prod.mk.inj h).1 (by decide), fun h => absurd (k1.symm.trans h.1) (by decide)⟩
    · rw [if_neg k1]
      by_cases k2 : k = 2
      · rw [if_pos k2]
        exact ⟨fun h => ⟨k2, (Prod.mk.inj (Prod.mk.inj h).2).2.symm⟩, fun h => by rw [h.2]⟩
      · rw [if_neg k2]
        exact ⟨fun h => absurd (Prod.mk.inj h).1.symm k2, fun h => absurd h.1 k2⟩
theorem pat_three (l : List A) : (l.map patA).contains (3, [], 0) = (l.map hdA).any (fun h => h.kind == 3) := by
  induction l with
  | nil => rfl
  | cons x r ih =>
    rw [List.map_cons, List.contains_cons, ih, List.map_cons, List.any_cons]
    congr 1
    obtain ⟨k, a, n, m', vs, y⟩ := x
    simp only [patA, hdA, patK]
    rw [Bool.eq_iff_iff]
    simp only [beq_iff_eq]
    by_cases k1 : k = 1
    · rw [if_pos k1]
      exact ⟨fun h => absurd (Prod.mk.inj h).1 (by decide), fun h => absurd (k1.symm.trans h) (by decide)⟩
    · rw [if_neg k1]
      by_cases k2 : k = 2
      · rw [if_pos k2]
        exact ⟨fun h => absurd (Prod.mk.inj h).1 (by decide), fun h => absurd (k2.symm.trans h) (by decide)⟩
      · rw [if_neg k2]
        exact ⟨fun h => (Prod.mk.inj h).1.symm, fun h => by rw [h]⟩
theorem okP_pat {x : A} (h : okA x) : okP (patA x) := by
  obtain ⟨k, a, n, m, vs, y⟩ := x
  simp only [okA] at h
  simp only [patA, patK]
  have z : (Lit.int .i64 0).wf = true := by decide
  by_cases k1 : k = 1
  · rw [if_pos k1]; exact ⟨by show (Lit.int .i64 1).wf = true; decide, h.2.1, z⟩
  · rw [if_neg k1]
    by_cases k2 : k = 2
    · rw [if_pos k2]; exact ⟨by show (Lit.int .i64 2).wf = true; decide, by simp, h.2.2.1⟩
    · rw [if_neg k2]; exact ⟨h.1, by simp, z⟩
theorem nmAs_app : ∀ a b : List A, nmAs (a ++ b) = nmAs a + nmAs b
  | [], b => by rw [List.nil_append, nmAs, Nat.zero_add]
  | x :: r, b => by rw [List.cons_append, nmAs, nmAs_app r b, nmAs]; omega
theorem nmAs_take (l : List A) (j : Nat) (h : j < l.length) : nmAs (l.take (j + 1)) = nmAs (l.take j) + nmA (l[j]'h) := by
  rw [List.take_succ_eq_append_getElem h, nmAs_app, nmAs, nmAs]; omega
theorem nmAs_take_le (l : List A) (j : Nat) : nmAs (l.take j) ≤ nmAs l := by
  have := nmAs_app (l.take j) (l.drop j)
  rw [List.take_append_drop] at this
  omega
/-- an alternative in memory, and what each field of it is -/
theorem isA_open {w : World} {ok : Nat → Prop} {x : A} {c : List Value} (h : isA w ok x c) : ∃ (k a n : Int) (s : Nm) (vs : List Nm) (y : E) (k1 xa xm : Int) (xs : ByteArray) (h4 h9 h10 h11 h12 : Option Addr) (m4 m9 m10 m11 m12 z4 z9 z10 z11 z12 : Nat),
    x = .mk k a s n vs y ∧ c = (alt13 k a n k1 xa xm (str s) xs h4 h9 h10 h11 h12 m4 m9 m10 m11 m12 z4 z9 z10 z11 z12).toList ∧ IsRow w ok (strC vs) vs.length (.slice h4 m4 z4) ∧ vs.length = m4 ∧ isE w ok y (exp8 k1 xa xm xs h9 h10 h11 h12 m9 m10 m11 m12 z9 z10 z11 z12).toList := by
  obtain ⟨k, a, n, m, vs, y⟩ := x
  simp only [isA] at h
  obtain ⟨va, d, rfl, R, I⟩ := h
  have R0 := R
  obtain ⟨g4, c4, rfl, _, _⟩ := R
  obtain ⟨k1, xa, xm, xs, h9, h10, h11, h12, m9, m10, m11, m12, z9, z10, z11, z12, rfl⟩ := isE_eight I
  exact ⟨_, _, _, _, _, _, _, _, _, _, _, _, _, _, _, _, _, _, _, _, _, _, _, _, _, rfl, rfl, R0, rfl, I⟩
theorem palt_any (x : A) (H : PE (bodA x)) {w : World} {b f m nf n : Nat} {ds : List D} {bd : Nm → Nat} (h : Cs w b f m nf n (arityN ds) bd) (k a xn : Int) (s : Nm) (vs : List Nm) (y : E) (k1 xa xm : Int) (xs : ByteArray) (h4 h9 h10 h11 h12 : Option Addr) (m4 m9 m10 m11 m12 z4 z9 z10 z11 z12 : Nat) (ex : x = .mk k a s xn vs y)
    (R : IsRow w (but3 b f m) (strC vs) vs.length (.slice h4 m4 z4)) (e4 : vs.length = m4) (I : isE w (but3 b f m) y (exp8 k1 xa xm xs h9 h10 h11 h12 m9 m10 m11 m12 z9 z10 z11 z12).toList) (ox : okA x) (q : Bool) (hn : n + 2 * nmA x ≤ 1000000000) :
    Calls Tryz.prog 135 #[ptr b, .agg (alt13 k a xn k1 xa xm (str s) xs h4 h9 h10 h11 h12 m4 m9 m10 m11 m12 z4 z9 z10 z11 z12), .bool q] w (Res w b f m nf (n + 2 * nmA x) (arityN ds) bd (altX ds bd k a s vs q y)) := by
  subst ex
  simp only [okA] at ox
  simp only [bodA] at H
  simp only [nmA] at hn ⊢
  unfold altX
  by_cases q1 : k = 1
  · rw [if_pos q1]; subst q1
    exact palt_con y H h a xn k1 xa xm s xs h4 h9 h10 h11 h12 m4 m9 m10 m11 m12 z4 z9 z10 z11 z12 vs R e4 I ox.2.1 ox.2.2.2.1 ox.2.2.2.2 q _ (Nat.le_refl _) hn
  · rw [if_neg q1]
    by_cases q2 : k = 2
    · rw [if_pos q2]; subst q2
      exact palt_int y H h a xn k1 xa xm s xs h4 h9 h10 h11 h12 m4 m9 m10 m11 m12 z4 z9 z10 z11 z12 vs R e4 I ox.2.1 ox.2.2.2.1 ox.2.2.2.2 q _ (Nat.le_refl _) hn
    · rw [if_neg q2]
      by_cases q3 : k = 3
      · rw [if_pos q3]; subst q3
        exact palt_all y H h a xn k1 xa xm s xs h4 h9 h10 h11 h12 m4 m9 m10 m11 m12 z4 z9 z10 z11 z12 vs R e4 I ox.2.1 ox.2.2.2.1 ox.2.2.2.2 q _ (Nat.le_refl _) hn
      · rw [if_neg q3]
        exact palt_none k ⟨q1, q2, q3⟩ y H h a xn k1 xa xm s xs h4 h9 h10 h11 h12 m4 m9 m10 m11 m12 z4 z9 z10 z11 z12 vs R e4 I ox.2.1 ox.2.2.2.1 ox.2.2.2.2 q _ (Nat.le_refl _) hn
theorem altX_none {ds : List D} {bd : Nm → Nat} {k a : Int} {s : Nm} {vs : List Nm} {q : Bool} {y : E} (h : altX ds bd k a s vs q y = none) : (k = 1 ∧ q = false) ∨ (k = 2 ∧ q = false) ∨ k = 3 := by
  unfold altX at h
  by_cases q1 : k = 1
  · rw [if_pos q1, orF_none, orF_none, orF_none] at h
    refine .inl ⟨q1, ?_⟩
    cases q with
    | false => rfl
    | true => rw [if_pos rfl] at h; cases h.1.2.2
  · rw [if_neg q1] at h
    by_cases q2 : k = 2
    · rw [if_pos q2, orF_none] at h
      refine .inr (.inl ⟨q2, ?_⟩)
      cases q with
      | false => rfl
      | true => rw [if_pos rfl] at h; cases h.1
    · rw [if_neg q2] at h
      by_cases q3 : k = 3
      · exact .inr (.inr q3)
      · rw [if_neg q3] at h; cases h
set_option maxRecDepth 100000 in
set_option maxHeartbeats 8000000 in
theorem palts_any (al : List A) (HA : ∀ x ∈ al, PE (bodA x)) {w : World} {b f m nf n : Nat} {ds : List D} {bd : Nm → Nat} (h : Cs w b f m nf n (arityN ds) bd) (v : Value) (xb : List Value) (R : IsRow w (but3 b f m) xb al.length v) (RA : isAs w (but3 b f m) al xb) (ok : okAs al) (hn : n + 2 * nmAs al ≤ 1000000000) :
    Calls Tryz.prog 131 #[ptr b, v] w (Res w b f m nf (n + 2 * nmAs al) (arityN ds) bd (chAs ds prN tA (scD bd) [] al)) := by
  obtain ⟨keys, hky⟩ : ∃ keys, al.map patA = keys := ⟨_, rfl⟩
  have hok : ∀ s ∈ keys, okP s := fun s hs => by
    rw [← hky] at hs
    obtain ⟨x, hx, rfl⟩ := List.mem_map.1 hs
    exact okP_pat (okAs_mem ok x hx)
  have FD := fd86_any al xb keys hky v R RA hok
  have kk : keys.length = al.length := by rw [← hky, List.length_map]
  obtain ⟨F, hF⟩ : ∃ F, chAs ds prN tA (scD bd) [] al = F := ⟨_, rfl⟩
  rw [hF]
  have HF : Hid (chAs ds prN tA (scD bd) ((al.take 0).map hdA).reverse (al.drop 0) = F) := ⟨by rw [List.take_zero, List.drop_zero]; exact hF⟩
  have HE := Hid.mk hky
  have HHA := Hid.mk HA
  have HOK := Hid.mk ok
  obtain ⟨ga, cap, rfl, hc, hx⟩ := id R
  have HRA := Hid.mk RA
  have HX := Hid.mk hx
  obtain ⟨k, hk⟩ : ∃ k, al.length = k := ⟨_, rfl⟩
  have HK := Hid.mk hk
  have HKL : Hid (keys.length = k) := ⟨kk.trans hk⟩
  rw [hk] at hc FD
  simp only [hk]
  obtain ⟨r, hr⟩ : ∃ r, firstD keys = r := ⟨_, rfl⟩
  rw [hr] at FD
  have HRR := Hid.mk hr
  have HC0 := Hid.mk h
  clear h R RA ok hky hok HA kk hF hx hk hr
  go_enter Tryz.func131, Tryz.ntmps131
  go_wp2_with (go_at_call 133; refine FD.mono ?_; rintro e w1 ⟨rfl, B1⟩; have HG1 := Hid.mk (Ge.of_below (b := b) (f := f) (m := m) B1); have HC1 := Hid.mk (HC0.out.later B1); clear B1 FD)
  go_loopw [12] (fun c wr => ∃ i : Nat, c = .int .i64 i ∧ i ≤ k ∧ Hid (Ge b f m w wr) ∧ Hid (Cs wr b f m nf (n + 2 * nmAs (al.take i)) (arityN ds) bd) ∧ Hid (chAs ds prN tA (scD bd) ((al.take i).map hdA).reverse (al.drop i) = F) ∧ Hid (noD keys i) ∧ Hid (∀ j (hj : j < al.length), j < i → j + 1 ≠ i → kA (al[j]'hj) ≠ 3)) (fun c _ => k - (intOf c).toNat)
  case atStart => exact ⟨0, rfl, Nat.zero_le _, HG1, ⟨by rw [List.take_zero]; exact HC1.out⟩, HF, ⟨noD_zero _⟩, ⟨fun j hj h => absurd h (Nat.not_lt_zero _)⟩⟩
  case round =>
    obtain ⟨i, rfl, hi, GW, CW, HK1, HND, HPR⟩ := hrel
    by_cases hlt : i < k
    · have kl : i < al.length := by rw [HK.out]; exact hlt
      have knl : i < keys.length := by rw [HKL.out]; exact hlt
      obtain ⟨p, off, rfl, hp, hx⟩ := HX.out (by rw [HK.out]; omega)
      obtain ⟨d, hd, hg⟩ := isAs_get al xb HRA.out i kl
      obtain ⟨k0, a0, n0, s0, vs, y, k1, xa, xm, xs, h4, h9, h10, h11, h12, m4, m9, m10, m11, m12, z4, z9, z10, z11, z12, ex, rfl, RV, e4, IY⟩ := isA_open hd
      have bl : ∀ (j : Nat) (u : Value), (alt13 k0 a0 n0 k1 xa xm (str s0) xs h4 h9 h10 h11 h12 m4 m9 m10 m11 m12 z4 z9 z10 z11 z12).toList[j]? = some u → wr.cell? ⟨p, off + i * 13 + j, none⟩ = some u := fun j u hj => by
        have h0 := hx _ _ (hg j u hj)
        rw [← Nat.add_assoc] at h0
        exact GW.out.keeps.cell p _ _ hp h0
      have c0 := bl 0 _ rfl
      have c1 := bl 1 _ rfl
      have c2 := bl 2 _ rfl
      have c3 := bl 3 _ rfl
      have c4 := bl 4 _ rfl
      have c5 := bl 5 _ rfl
      have c6 := bl 6 _ rfl
      have c7 := bl 7 _ rfl
      have c8 := bl 8 _ rfl
      have c9 := bl 9 _ rfl
      have c10 := bl 10 _ rfl
      have c11 := bl 11 _ rfl
      have c12 := bl 12 _ rfl
      rw [Nat.add_zero] at c0
      have hst := HK1.out
      rw [List.drop_eq_getElem_cons kl, ex, chAs] at hst
      have hfd := fd_at knl HND.out
      have ek : keys[i]'knl = patK k0 s0 n0 := by simp only [← HE.out, List.getElem_map, ex, patA]
      have etk : keys.take i = (al.take i).map patA := by rw [← HE.out, List.map_take]
      rw [HRR.out, ek, etk] at hfd
      have htk := nmAs_take al i kl
      have htl := nmAs_take_le al (i + 1)
      have hlt' : (i : Int) < k := by omega
      have hmk := List.getElem_mem kl
      have htaken : ((al.take (i + 1)).map hdA).reverse = ⟨k0, s0, n0⟩ :: ((al.take i).map hdA).reverse := by
        rw [List.take_succ_eq_append_getElem kl, List.map_append, List.reverse_append, ex]; rfl
      have GW1 : Hid (Ge b f m w (wr.alloc (.cells (alt13 k0 a0 n0 k1 xa xm (str s0) xs h4 h9 h10 h11 h12 m4 m9 m10 m11 m12 z4 z9 z10 z11 z12) 95))) := ⟨GW.out.alloc _⟩
      have CW1 := Hid.mk (CW.out.alloc (.cells (alt13 k0 a0 n0 k1 xa xm (str s0) xs h4 h9 h10 h11 h12 m4 m9 m10 m11 m12 z4 z9 z10 z11 z12) 95))
      have XW : Bx (wr.alloc (.cells (alt13 k0 a0 n0 k1 xa xm (str s0) xs h4 h9 h10 h11 h12 m4 m9 m10 m11 m12 z4 z9 z10 z11 z12) 95)) wr.heap.size (alt13 k0 a0 n0 k1 xa xm (str s0) xs h4 h9 h10 h11 h12 m4 m9 m10 m11 m12 z4 z9 z10 z11 z12) 95 := heap_alloc_new wr _
      have y0 := XW.cell 0
      have y1 := XW.cell 1
      have y2 := XW.cell 2
      have y3 := XW.cell 3
      have y4 := XW.cell 4
      have y5 := XW.cell 5
      have y6 := XW.cell 6
      have y7 := XW.cell 7
      have y8 := XW.cell 8
      have y9 := XW.cell 9
      have y10 := XW.cell 10
      have y11 := XW.cell 11
      have y12 := XW.cell 12
      -- is the one just ahead an AAll?
      have hlast : 0 < i → ∃ kp : Int, (wr.alloc (.cells (alt13 k0 a0 n0 k1 xa xm (str s0) xs h4 h9 h10 h11 h12 m4 m9 m10 m11 m12 z4 z9 z10 z11 z12) 95)).cell? ⟨p, off + (i - 1) * 13, none⟩ = some (.int .i64 kp) ∧ ∀ hj : i - 1 < al.length, kA (al[i - 1]'hj) = kp := fun hi0 => by
        have kj : i - 1 < al.length := by omega
        obtain ⟨d', hd', hg'⟩ := isAs_get al xb HRA.out (i - 1) kj
        obtain ⟨k0', a0', n0', s0', vs', y', k1', xa', xm', xs', h4', h9', h10', h11', h12', m4', m9', m10', m11', m12', z4', z9', z10', z11', z12', ex', rfl, _, _, _⟩ := isA_open hd'
        refine ⟨k0', ?_, fun _ => by rw [ex']; rfl⟩
        have h0 := hx _ _ (hg' 0 _ rfl)
        rw [Nat.add_zero] at h0
        exact GW1.out.keeps.cell p _ _ hp h0
      have CALL := fun (q : Bool) => palt_any (al[i]'kl) (HHA.out _ hmk) CW1.out k0 a0 n0 s0 vs y k1 xa xm xs h4 h9 h10 h11 h12 m4 m9 m10 m11 m12 z4 z9 z10 z11 z12 ex (RV.keeps GW1.out.keeps) e4 (isE_keeps GW1.out.keeps _ _ IY) (okAs_mem HOK.out _ hmk) q (by omega)
      rw [show n + 2 * nmAs (al.take i) + 2 * nmA (al[i]'kl) = n + 2 * nmAs (al.take (i + 1)) by omega] at CALL
      -- none ahead is an AAll, if the one just ahead is none
      have h3 : (∀ hi0 : 0 < i, ∀ hj : i - 1 < al.length, kA (al[i - 1]'hj) ≠ 3) → (((al.take i).map hdA).reverse).any (fun h => h.kind == 3) = false := fun hq => by
        rw [List.any_reverse, List.any_map, List.any_eq_false]
        intro z hz
        obtain ⟨j, hj, rfl⟩ := List.mem_take_iff_getElem.1 hz
        have hj1 : j < i := by omega
        have hj2 : j < al.length := by omega
        have : kA (al[j]'hj2) ≠ 3 := by
          by_cases e : j + 1 = i
          · have := hq (by omega) (by omega)
            have e2 : i - 1 = j := by omega
            simp only [e2] at this
            exact this
          · exact HPR.out j hj2 hj1 e
        revert this
        generalize al[j]'hj2 = z
        obtain ⟨q1, q2, q3, q4, q5, q6⟩ := z
        intro this
        simpa [hdA, kA] using this
      have hgo : (∀ hi0 : 0 < i, ∀ hj : i - 1 < al.length, kA (al[i - 1]'hj) ≠ 3) → chA ds prN tA (scD bd) ((al.take i).map hdA).reverse (.mk k0 a0 s0 n0 vs y) = altX ds bd k0 a0 s0 vs ((i : Int) == r) y ∧ (altX ds bd k0 a0 s0 vs ((i : Int) == r) y = none → noD keys (i + 1)) := fun hq => by
        refine ⟨altX_ch ds bd _ k0 a0 s0 n0 vs _ y (h3 hq) (fun e => ?_) (fun e => ?_), fun hz => noD_succ HND.out knl ?_⟩
        · rw [hfd, e, List.any_reverse, ← pat_one]; rfl
        · rw [hfd, e, List.any_reverse, ← pat_two]; rfl
        · rw [ek, etk]
          rcases altX_none hz with ⟨_, e⟩ | ⟨_, e⟩ | e
          · exact hfd.symm.trans e
          · exact hfd.symm.trans e
          · have := h3 hq
            rw [List.any_reverse, ← pat_three] at this
            rw [e]
            exact this
      have hpr : (∀ hi0 : 0 < i, ∀ hj : i - 1 < al.length, kA (al[i - 1]'hj) ≠ 3) → ∀ j (hj : j < al.length), j < i + 1 → j + 1 ≠ i + 1 → kA (al[j]'hj) ≠ 3 := fun hq j hj h1 h2 => by
        by_cases e : j + 1 = i
        · have := hq (by omega) (by omega)
          have e2 : i - 1 = j := by omega
          simp only [e2] at this
          exact this
        · exact HPR.out j hj (by omega) e
      have HGO := Hid.mk hgo
      have HPR2 := Hid.mk hpr
      have HCALL := Hid.mk CALL
      have HTK := Hid.mk htaken
      have HST := Hid.mk hst
      have HLA : Hid ((∃ hi0 : 0 < i, ∃ hj : i - 1 < al.length, kA (al[i - 1]'hj) = 3) → F = some (a0, 35)) := ⟨fun ⟨hi0, hj, e⟩ => by
        have ha : (((al.take i).map hdA).reverse).any (fun h => h.kind == 3) = true := by
          rw [List.any_reverse, List.any_map, List.any_eq_true]
          refine ⟨al[i - 1]'hj, List.mem_take_iff_getElem.2 ⟨i - 1, by omega, rfl⟩, ?_⟩
          revert e
          generalize al[i - 1]'hj = z
          obtain ⟨q1, q2, q3, q4, q5, q6⟩ := z
          intro e
          simpa [hdA, kA] using e
        rw [← hst, chA]
        unfold altF
        rw [if_pos ha]
        rfl⟩
      clear hst hx hd hg bl XW CALL htaken hgo hpr h3 htk htl hmk hfd ek etk IY RV ex HK1 CW GW
      by_cases i0 : i = 0
      · have hq : ∀ hi0 : 0 < i, ∀ hj : i - 1 < al.length, kA (al[i - 1]'hj) ≠ 3 := fun hi0 => absurd hi0 (by omega)
        have g1 := HGO.out hq
        have g2 := Hid.mk (HPR2.out hq)
        have hst := HST.out
        rw [g1.1, ← HTK.out] at hst
        have ig : ¬ (0 : Int) < i := by omega
        clear i0
        have CALL := HCALL.out ((i : Int) == r)
        cases U : altX ds bd k0 a0 s0 vs ((i : Int) == r) y with
        | none =>
          rw [U] at hst CALL
          have HN1 := Hid.mk (g1.2 U)
          rw [orF_left] at hst
          have HT := Hid.mk hst
          clear hst U g1 hq hlast HLA HGO HPR2 HCALL HST
          go_wp2_with (go_at_call 135; refine CALL.mono ?_; intro e w8 R8; obtain ⟨rfl, G8, C8⟩ := R8.yes'; have GW3 := Hid.mk (GW1.out.trans G8); have CW3 := Hid.mk C8; clear R8 G8 C8)
          exact ⟨⟨i + 1, by go_num, by omega, GW3, CW3, HT, HN1, g2⟩, by simp [intOf]; omega⟩
        | some q =>
          obtain ⟨qa, qc⟩ := q
          rw [U] at hst CALL
          rw [orF_some] at hst
          have HT := Hid.mk hst
          clear hst U g1 hq hlast HLA HGO HPR2 HCALL HST
          go_wp2_with (go_at_call 135; refine CALL.mono ?_; intro e w8 R8; obtain ⟨rfl, G8, C8⟩ := R8.no'; have GW3 := Hid.mk (GW1.out.trans G8); have CW3 := Hid.mk C8; clear R8 G8 C8)
          go_ret
          rw [← HT.out]
          exact ⟨rfl, GW3.out, CW3.out⟩
      · obtain ⟨j, hj⟩ : ∃ j, i - 1 = j := ⟨_, rfl⟩
        have ip : 0 < i := by omega
        have ig : (0 : Int) < (i : Int) := by omega
        obtain ⟨kp, ckp, hkp⟩ := hlast (by omega)
        have HJ := Hid.mk hj
        have HIP := Hid.mk ip
        by_cases k3 : kp = 3
        · subst k3
          have eF := HLA.out ⟨ip, by omega, hkp _⟩
          have HEF := Hid.mk eF
          clear HLA HGO HPR2 HCALL HST hkp eF hj ip i0
          go_wp2_with (go_at_call 45; refine (pfail_any CW1.out a0 _).mono ?_; rintro e w8 ⟨rfl, G8, C8⟩; have GW3 := Hid.mk (GW1.out.trans G8); have CW3 := Hid.mk C8; clear G8 C8)
          go_ret
          rw [HEF.out]
          exact ⟨rfl, GW3.out, CW3.out⟩
        · have hq : ∀ hi0 : 0 < i, ∀ hj : i - 1 < al.length, kA (al[i - 1]'hj) ≠ 3 := fun hi0 hj => by rw [hkp hj]; exact k3
          have g1 := HGO.out hq
          have g2 := Hid.mk (HPR2.out hq)
          have hst := HST.out
          rw [g1.1, ← HTK.out] at hst
          have k3' : (kp == 3) = false := beq_eq_false_iff_ne.2 k3
          have CALL := HCALL.out ((i : Int) == r)
          cases U : altX ds bd k0 a0 s0 vs ((i : Int) == r) y with
          | none =>
            rw [U] at hst CALL
            have HN1 := Hid.mk (g1.2 U)
            rw [orF_left] at hst
            have HT := Hid.mk hst
            clear hst U g1 hq HLA HGO HPR2 HCALL HST hkp k3 hj ip i0
            go_wp2_with (go_at_call 135; refine CALL.mono ?_; intro e w8 R8; obtain ⟨rfl, G8, C8⟩ := R8.yes'; have GW3 := Hid.mk (GW1.out.trans G8); have CW3 := Hid.mk C8; clear R8 G8 C8)
            exact ⟨⟨i + 1, by go_num, by omega, GW3, CW3, HT, HN1, g2⟩, by simp [intOf]; omega⟩
          | some q =>
            obtain ⟨qa, qc⟩ := q
            rw [U] at hst CALL
            rw [orF_some] at hst
            have HT := Hid.mk hst
            clear hst U g1 hq HLA HGO HPR2 HCALL HST hkp k3 hj ip i0
            go_wp2_with (go_at_call 135; refine CALL.mono ?_; intro e w8 R8; obtain ⟨rfl, G8, C8⟩ := R8.no'; have GW3 := Hid.mk (GW1.out.trans G8); have CW3 := Hid.mk C8; clear R8 G8 C8)
            go_ret
            rw [← HT.out]
            exact ⟨rfl, GW3.out, CW3.out⟩
    · obtain rfl : i = k := by omega
      have eF : F = none := by
        have := HK1.out
        rw [List.drop_eq_nil_of_le (by rw [HK.out]; omega), chAs] at this
        exact this.symm
      have HEF := Hid.mk eF
      have C3 : Hid (Cs wr b f m nf (n + 2 * nmAs al) (arityN ds) bd) := ⟨by have := CW.out; rwa [List.take_of_length_le (by rw [HK.out]; omega)] at this⟩
      clear HK1 CW eF HND HPR
      go_wp2
      go_ret
      rw [HEF.out]
      exact ⟨rfl, GW.out, C3.out⟩
end Go.Proofs.YtbajpejnnfacbaaGreatDoor
