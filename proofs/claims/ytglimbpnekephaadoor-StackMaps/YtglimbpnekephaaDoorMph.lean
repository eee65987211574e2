/- Pointers are turned from the lowest frame up: the law's walk. -/
import Derived.Test.YtglimbpnekephaaDoorMpg
import Derived.Test.YtglimbpnekephaaDoorBkb
namespace Go.Proofs.YtglimbpnekephaaDoor
open Go.RowKit
set_option linter.unusedVariables false
set_option linter.unusedSimpArgs false

/-- the law's state while frames are pushed -/
structure Mu (w W : World) (p a b base : Nat) (v : Value) (rs : List Fr) : Prop where
  s : ∃ ws, Ss W p a b ws 5 2000 0 rs
  r : RowS W base 3 1 v (ptrs rs).length (rowI (ptrs rs))
  b : Below w.heap.size w W
  m : base ≤ W.heap.size
theorem RowS.kept {w w' : World} {base size n p b : Nat} {e : TypeId} {v : Value} {xs : List Value} (h : RowS w base e size v n xs) (k : Kp p b w w') (hp : p < base) (hb : b < base) : RowS w' base e size v n xs := by
  rcases h with h | ⟨h0, h⟩
  · exact Or.inl h
  · refine Or.inr ⟨h0, h.1, ?_⟩
    rcases h.2 with hn | ⟨g, cap, cur, rfl, hg, hgg, r⟩
    · exact .inl hn
    · exact .inr ⟨g, cap, cur, rfl, hg, (k.block g (Array.getElem?_eq_some_iff.1 hgg).1 (by omega) (by omega)).trans hgg, r⟩
theorem news_of_ps {w : World} {o : Option Addr} {c : Nat} {ps : List Int} (P : PS w o c ps) (n : Nat) (hn : n = ps.length) : 0 < n → ∃ ad, o = some ad ∧ ∀ j u, (rowI ps)[j]? = some u → w.cell? (ad.add j) = some u := fun h0 => by
  obtain ⟨g, off, e, hx⟩ := P.num (by omega)
  refine ⟨_, e, fun j u hj => ?_⟩
  simp only [rowI, List.getElem?_map, Option.map_eq_some_iff] at hj
  obtain ⟨x, hxj, rfl⟩ := hj
  obtain ⟨h2, rfl⟩ := List.getElem?_eq_some_iff.1 hxj
  rw [add_spot]
  exact hx j h2
theorem rowI_one (xs : List Int) : ∀ u ∈ rowI xs, u.oneCell' = true := by
  intro u hu
  simp only [rowI, List.mem_map] at hu
  obtain ⟨x, _, rfl⟩ := hu
  rfl
theorem rowI_len (xs : List Int) (n : Nat) (hn : n = xs.length) : (rowI xs).length = n * 1 := by simp [rowI, hn]
set_option maxRecDepth 100000 in
set_option maxHeartbeats 8000000 in
theorem maps_walk (l : List Fr) (sv : Value) (w : World) (T : Table w) (L : Lst w 4 (isFr w) l sv) : Calls Tryd.prog 7 #[sv] w fun e w' => e = .returned (.bool true) ∧ Below w.heap.size w w' := by
  have HL := Hid.mk L
  obtain ⟨ga, cap, rfl, hc, hcc⟩ := L
  obtain ⟨n, hn⟩ : ∃ n, l.length = n := ⟨_, rfl⟩
  have HN := Hid.mk hn
  rw [hn] at hc ⊢
  have hc1 := hc.1
  have hc2 := hc.2
  have HT := Hid.mk T
  have tl := T.lt
  clear hn hc T hcc
  have MK := made_ok 2000 w (by omega) (by omega)
  rw [show ((2000 : Nat) : Int) = 2000 from rfl] at MK
  have AW := fun W (B : Below w.heap.size w W) => awake_any W (HT.out.later B)
  go_enter Tryd.func7, Tryd.ntmps7
  go_wp2_with (first
    | (go_at_call 9; refine MK.mono ?_; clear MK; rintro e w1 ⟨p, a, b, ws0, rfl, M1⟩; have A1 := AW w1 M1.bel; have HM := Hid.mk M1; clear M1)
    | (go_at_call 10; refine A1.mono ?_; clear A1; rintro e w2 ⟨rfl, B2⟩))
  have hst : w.heap.size ≤ p ∧ w.heap.size ≤ a ∧ w.heap.size ≤ b := ⟨HM.out.hp, HM.out.ha, HM.out.hb⟩
  obtain ⟨base, hbase⟩ : ∃ x, x = w2.heap.size := ⟨_, rfl⟩
  have lt2 := HM.out.s.lt
  have b2s := B2.size
  have hs1 : p < base ∧ a < base ∧ b < base := by omega
  have P0 : Hid (Mu w w2 p a b base (.slice none 0 0) []) := ⟨⟨⟨ws0, HM.out.s.later B2⟩, .inl ⟨rfl, rfl, none, rfl⟩, belowOn HM.out.bel B2, by omega⟩⟩
  clear B2 HM AW hbase lt2 b2s
  go_loopw [5, 6] (fun v5 cv wx => ∃ (x6 : Int) (i : Nat) (rs : List Fr), cv = .int .i64 x6 ∧ Hid (x6 = (i : Int)) ∧ i ≤ n ∧ i ≤ 50 ∧ Hid (Mu w wx p a b base v5 rs)) (fun _ cv _ => n - (intOf cv).toNat)
  case atStart => exact ⟨0, 0, [], rfl, ⟨rfl⟩, Nat.zero_le _, by omega, P0⟩
  case round =>
    obtain ⟨x6, i, rs, rfl, hx6, hi1, hi2, HP⟩ := hrel
    by_cases hlt2 : i < n ∧ i < 50
    · obtain rfl : x6 = (i : Int) := hx6.out
      clear hx6
      have kl : i < l.length := by rw [HN.out]; exact hlt2.1
      obtain ⟨g, off, cap', c, e, _, _, pc, hx⟩ := HL.out.get i kl
      rw [HN.out] at e
      simp only [Value.slice.injEq] at e
      obtain ⟨rfl, hq8, rfl⟩ := e
      clear hq8
      obtain ⟨o, fc, rfl, PF⟩ := pc
      have gl : g < w.heap.size := World.block_lt_of_cell? _ _ (hx 0 _ rfl)
      have gl2 := HP.out.b.size
      have hx' : ∀ j u, _ → wr.cell? ⟨g, off + i * 4 + j, none⟩ = some u := fun j u h => (HP.out.b.cell (p := ⟨g, off + i * 4 + j, none⟩) (World.block_lt_of_cell? _ _ (hx j u h))).trans (hx j u h)
      have c0 : wr.cell? ⟨g, off + i * 4, none⟩ = some (.int .i64 (l[i]'kl).k) := hx' 0 _ rfl
      have c1 : wr.cell? ⟨g, off + i * 4 + 1, none⟩ = some (.int .i64 (l[i]'kl).a) := hx' 1 _ rfl
      have c2 : wr.cell? ⟨g, off + i * 4 + 2, none⟩ = some (.int .i64 (l[i]'kl).b) := hx' 2 _ rfl
      have c3 : wr.cell? ⟨g, off + i * 4 + 3, none⟩ = some (.slice o (l[i]'kl).ps.length fc) := hx' 3 _ rfl
      obtain ⟨wsx, Sx⟩ := HP.out.s
      have PU := push_any Sx (l[i]'kl) o fc (HT.out.later HP.out.b) (PF.later HP.out.b) (off_old PF hst.1) (off_old PF hst.2.2)
      have hpl := ptrs_le rs
      have hun := Sx.stk.un
      generalize l[i]'kl = f at *
      have HPF := Hid.mk PF
      have lt1 : (i : Int) < n := by omega
      have lt2 : (i : Int) < 50 := by omega
      unfold fv at PU
      obtain ⟨fk, hfk⟩ : ∃ x, x = f.k := ⟨_, rfl⟩
      obtain ⟨fa, hfa⟩ : ∃ x, x = f.a := ⟨_, rfl⟩
      obtain ⟨fb, hfb⟩ : ∃ x, x = f.b := ⟨_, rfl⟩
      obtain ⟨fn, hfn⟩ : ∃ x, x = f.ps.length := ⟨_, rfl⟩
      simp only [← hfk, ← hfa, ← hfb, ← hfn] at c0 c1 c2 c3 PU
      have HF : Hid (fk = f.k ∧ fa = f.a ∧ fb = f.b ∧ fn = f.ps.length) := ⟨hfk, hfa, hfb, hfn⟩
      clear hfk hfa hfb hfn hx hx' Sx PF
      have cur : ∀ (W : World), Kp p b wr W → W.cell? ⟨g, off + i * 4 + 3, none⟩ = some (.slice o fn fc) := fun W K => by
        have e := K.block g (by omega) (by omega) (by omega)
        exact (World.cell?_of_block (w := wr) (a := ⟨g, off + i * 4 + 3, none⟩) e).trans c3
      by_cases hpe : pushE 2000 (wd rs).length f = 0
      · have fle : f.ps.length ≤ 1000 := by
          have : rightE f = 0 := by
            unfold pushE at hpe
            split at hpe
            · rename_i h1; exact absurd hpe h1
            · rename_i h1; simpa using h1
          exact (Okf.of this).n
        simp only [hpe, if_true] at PU
        clear hpe
        obtain ⟨ga5, cp5, rfl, hcp5⟩ := HP.out.r.le
        have fle' : fn ≤ 1000 := by have := HF.out; omega
        obtain ⟨olds, hol⟩ : ∃ olds, olds = ptrs rs := ⟨_, rfl⟩
        have HOL : Hid (olds = ptrs rs) := ⟨hol⟩
        have HR0 := Hid.mk HP.out.r
        rw [← hol] at hpl HR0 hcp5
        obtain ⟨m, hm⟩ : ∃ m, m = olds.length := ⟨_, rfl⟩
        have HMM : Hid (m = olds.length) := ⟨hm⟩
        rw [← hm] at hpl HR0 hcp5
        rw [← hol, ← hm]
        clear hol hm fle
        go_wp2_with (first
          | (go_at_call 18; refine PU.mono ?_; clear PU; rintro e w3 ⟨rfl, ⟨ws3, S3, E3⟩, K3⟩; have d3 := cur w3 K3; have HR3 := Hid.mk (HR0.out.kept K3 hs1.1 hs1.2.2); have HS3 := Hid.mk S3; have HK3 := Hid.mk K3; have HNN := Hid.mk (news_of_ps ((HPF.out.later HP.out.b).kept K3 (off_old HPF.out hst.1) (off_old HPF.out hst.2.2)) fn HF.out.2.2.2); clear K3 S3 E3)
          | (at_builtin; obtain ⟨i0, hi, hz0, hz1, hz2⟩ := info_parts info3; refine wpList_append_T rfl _ _ 34 rfl base 3 i0 _ 1 8 Tryd.underlying34 hi hz0 hz1 hz2 rfl (by decide) (.slice ga5 m cp5) m (rowI olds) rfl HR3.out o fn fc (rowI f.ps) rfl (rowI_len f.ps fn HF.out.2.2.2) HNN.out (rowI_one f.ps) (m + fn) rfl (rowI olds ++ rowI f.ps) rfl (by show _ ≤ 9223372036854775807; omega) (by omega) (by have := HP.out.m; have := HK3.out.size; omega) ?_; intro ga' cap' w5 hrow' hgr'; clear hi hz0 hz1 hz2))
        obtain ⟨rfl, rfl, rfl, rfl⟩ := HF.out
        have mP := HP.out.m
        have m3 := HK3.out.size
        have l3 := HS3.out.lt
        have E5 : ∀ k, k < w3.heap.size → k < base → w5.heap[k]? = w3.heap[k]? := fun k h1 h2 => app_block hgr' h1 (fun h0 e => by have := (HR3.out.lt h0 k e).1; omega)
        have B3 := Kp.below HP.out.b HK3.out HP.out.b.size hst.1 hst.2.2
        have s5 : w3.heap.size ≤ w5.heap.size := by obtain ⟨_, g5, _⟩ := hgr'; exact g5.size
        have o5 : w5.os = w3.os ∧ w5.tape = w3.tape ∧ w5.output = w3.output := by obtain ⟨_, g5, _⟩ := hgr'; exact ⟨g5.os, g5.tape, g5.output⟩
        refine ⟨⟨_, i + 1, f :: rs, rfl, ⟨by go_num⟩, by omega, by omega, ⟨⟨⟨ws3, HS3.out.stk.same (E5 p l3.1 hs1.1) (E5 a l3.2.1 hs1.2.1) (E5 b l3.2.2 hs1.2.2), HS3.out.ok, HS3.out.eq⟩, ?_, ?_, by omega⟩⟩⟩, by simp [intOf]; omega⟩
        · have e1 : (ptrs (f :: rs)).length = m + f.ps.length := by rw [HMM.out, HOL.out]; simp [ptrs]
          have e2 : rowI (ptrs (f :: rs)) = rowI olds ++ rowI f.ps := by rw [HOL.out]; simp [ptrs, rowI]
          rw [e1, e2]
          exact hrow'
        · exact ⟨o5.1.trans B3.os, o5.2.1.trans B3.tape, o5.2.2.trans B3.output, Nat.le_trans B3.size s5, fun k hk => (E5 k (Nat.lt_of_lt_of_le hk B3.size) (by omega)).trans (B3.block k hk)⟩
      · have hpb : (pushE 2000 (wd rs).length f == 0) = false := by simp [hpe]
        simp only [if_neg hpe] at PU
        generalize pushE 2000 (wd rs).length f = E at *
        go_wp2_with (first
          | (go_at_call 18; refine PU.mono ?_; clear PU; rintro e w3 ⟨rfl, ⟨ws3, S3, E3⟩, K3⟩))
        exact ⟨⟨_, i + 1, rs, rfl, ⟨by go_num⟩, by omega, by omega, ⟨⟨⟨ws3, S3⟩, HP.out.r.kept K3 hs1.1 hs1.2.2, Kp.below HP.out.b K3 HP.out.b.size hst.1 hst.2.2, Nat.le_trans HP.out.m K3.size⟩⟩⟩, by simp [intOf]; omega⟩
    · by_cases hq : i < n
      · have f1 : x6 < (n : Int) := by have := hx6.out; omega
        have f2 : (50 : Int) ≤ x6 := by have := hx6.out; omega
        obtain ⟨wsN, SN⟩ := HP.out.s
        have HSN := Hid.mk SN
        have HRN := Hid.mk HP.out.r
        have HBN := Hid.mk HP.out.b
        have HMN := HP.out.m
        obtain ⟨olds, hol⟩ : ∃ olds, olds = ptrs rs := ⟨_, rfl⟩
        have HOL : Hid (olds = ptrs rs) := ⟨hol⟩
        rw [← hol] at HRN
        obtain ⟨m, hm⟩ : ∃ m, m = olds.length := ⟨_, rfl⟩
        have HM : Hid (m = olds.length) := ⟨hm⟩
        rw [← hm] at HRN
        have hm2 : m ≤ 2000 := by rw [hm, hol]; have := ptrs_le rs; have := SN.stk.un; omega
        obtain ⟨ga5, cp5, rfl, hcp5⟩ := HRN.out.le
        have C5 : Hid (∀ i, i < m → ∃ g, ga5 = some ⟨g, 0, none⟩ ∧ base ≤ g ∧ g < wr.heap.size ∧ wr.cell? ⟨g, i, none⟩ = some (.int .i64 (olds.getD i 0))) := ⟨fun i hi => by
          rcases HRN.out with ⟨h0, _⟩ | ⟨_, ho⟩
          · omega
          · have ho' : Ri wr base (.slice ga5 m cp5) olds := by unfold Ri; rw [← hm]; exact ho
            rcases ho'.nm with ⟨_, h0⟩ | ⟨g, cap, e, _, hg, hn⟩
            · rw [h0] at hm; simp at hm; omega
            · simp only [Value.slice.injEq] at e
              obtain ⟨e1, _, _⟩ := e
              have := hn.cell i (by omega)
              exact ⟨g, e1, hg, World.block_lt_of_cell? _ _ this, this⟩⟩
        clear hol hm SN HP
        have Y1 : Bx (wr.alloc (Obj.cells #[.slice none 0 0] 34)) wr.heap.size #[.slice none 0 0] 34 := heap_alloc_new _ _
        have lN := HSN.out.lt
        have MP := map25 (HSN.out.later (show Below wr.heap.size wr (wr.alloc (Obj.cells #[.slice none 0 0] 34)) by go_grown)) Y1 (by omega) (by omega) (by omega)
        rw [← HOL.out, ← HM.out] at MP
        obtain ⟨y, hy⟩ : ∃ y, y = wr.heap.size := ⟨_, rfl⟩
        obtain ⟨wq, hwq⟩ : ∃ x, x = wr := ⟨_, rfl⟩
        have HYY : Hid (y = wq.heap.size) := ⟨by rw [hwq]; exact hy⟩
        rw [← hwq] at HBN C5 HMN HSN
        have emm : ((m : Int) != m) = false := by simp
        go_wp2_with (go_at_call 24; refine MP.mono ?_; clear MP; rintro e w5 ⟨⟨uu, rfl⟩, ⟨ws5, S5, _⟩, ⟨v7, Y7, R7⟩, K7⟩; obtain ⟨ga7, cp7, rfl, hcp7⟩ := R7.form; have y7 := Y7.cell 0; rw [← HM.out] at y7; have HY7 := Hid.mk Y7; have HR7 := Hid.mk R7; have HS5 := Hid.mk S5; have HK7 := Hid.mk K7; clear Y7 R7 S5 K7)
        simp only [← hy] at HY7 HR7 HK7 y7 ⊢
        have HB5 : Hid (Below w.heap.size w w5) := ⟨by
          have k := HK7.out
          have b1 := HBN.out
          have b2 : Below w.heap.size w (wr.alloc (Obj.cells #[.slice none 0 0] 34)) := belowOn (show Below w.heap.size w wr by rw [← hwq]; exact b1) (by go_grown)
          exact ⟨k.os.trans b2.os, k.tape.trans b2.tape, k.output.trans b2.output, Nat.le_trans b2.size k.size, fun j hj => (k.block j (Nat.lt_of_lt_of_le hj b2.size) (by omega) (by omega) (by have := HYY.out; have := b1.size; omega)).trans (b2.block j hj)⟩⟩
        have CA : Hid (∀ i, i < m → ∃ g, ga5 = some ⟨g, 0, none⟩ ∧ w5.cell? ⟨g, i, none⟩ = some (.int .i64 (olds.getD i 0))) := ⟨fun i hi => by
          obtain ⟨g, e1, h1, h2, h3⟩ := C5.out i hi
          rw [hwq] at h2 h3
          refine ⟨g, e1, (World.cell?_of_block (w := wr) (a := ⟨g, i, none⟩) ((HK7.out.block g (by simp; omega) (by omega) (by omega) (by omega)).trans (Below.heap_alloc _ _ _ h2))).trans h3⟩⟩
        have CM : Hid (∀ i, i < m → ∃ g, ga7 = some ⟨g, 0, none⟩ ∧ w5.cell? ⟨g, i, none⟩ = some (.int .i64 (olds.getD i 0))) := ⟨fun i hi => by
          rcases HR7.out.nm with ⟨_, h0⟩ | ⟨g, cap, e, _, hg, hn⟩
          · have := HM.out; rw [h0] at this; simp at this; omega
          · simp only [Value.slice.injEq] at e
            obtain ⟨e1, _, _⟩ := e
            exact ⟨g, e1, hn.cell i (by have := HM.out; omega)⟩⟩
        have hcp7' : m ≤ cp7 := by have := HM.out; omega
        have HY8 : Hid (Bx w5 y #[.slice ga7 m cp7] 34) := ⟨by rw [HM.out]; exact HY7.out⟩
        have HUP : Hid (ptrs (refill rs (ups m)) = ups m) := ⟨ptrs_refill rs (ups m) (by rw [ups_len, HM.out, HOL.out])⟩
        clear hy hwq C5 HK7 HR7 HY7 y7 HRN HBN HYY HSN lN hcp7 HMN
        go_loopw [8] (fun cv wx => ∃ i : Nat, cv = .int .i64 i ∧ i ≤ m ∧ Hid (Below w5.heap.size w5 wx)) (fun cv _ => m - (intOf cv).toNat)
        case atStart => exact ⟨0, rfl, Nat.zero_le _, ⟨Below.refl _ _⟩⟩
        case round =>
          obtain ⟨i2, rfl, hi2, HB⟩ := hrel
          by_cases hlt3 : i2 < m
          · obtain ⟨g1, rfl, c1⟩ := CA.out i2 hlt3
            obtain ⟨g2, rfl, c2⟩ := CM.out i2 hlt3
            have d1 : wr.cell? ⟨g1, i2, none⟩ = some (.int .i64 (olds.getD i2 0)) := (HB.out.cell (p := ⟨g1, i2, none⟩) (World.block_lt_of_cell? _ _ c1)).trans c1
            have d2 : wr.cell? ⟨g2, i2, none⟩ = some (.int .i64 (olds.getD i2 0)) := (HB.out.cell (p := ⟨g2, i2, none⟩) (World.block_lt_of_cell? _ _ c2)).trans c2
            have d3 : wr.cell? ⟨y, 0, none⟩ = some (.slice (some ⟨g2, 0, none⟩) m cp7) := by rw [Joins.cell_of_block ((HB.out.block y HY8.out.lt).trans HY8.out)]; rfl
            generalize olds.getD i2 0 = od at *
            have eo : (od != od) = false := by simp
            have hlt4 : (i2 : Int) < m := by omega
            clear c1 c2
            go_wp2
            go_quiet (fail)
            go_wp2
            exact ⟨⟨i2 + 1, by go_num, by omega, ⟨below_drewN HB.out _⟩⟩, by simp [intOf]; omega⟩
          · obtain rfl : i2 = m := by omega
            have HS6 : Hid (Ss wr p a b ws5 5 2000 0 (refill rs (ups i2))) := ⟨HS5.out.later HB.out⟩
            have HB6 : Hid (Below w.heap.size w wr) := ⟨belowOn HB5.out HB.out⟩
            have Q0 : Hid (∃ wsx rsx, Ss wr p a b wsx 5 2000 0 rsx ∧ ptrs rsx = ups i2 ∧ Below w.heap.size w wr) := ⟨⟨ws5, _, HS6.out, HUP.out, HB6.out⟩⟩
            clear HS6 HB6 HS5 HB
            go_wp2
            go_loopw [9] (fun cv wx => ∃ nn : Nat, cv = .int .i64 nn ∧ nn ≤ 2000 ∧ Hid (∃ wsx rsx, Ss wx p a b wsx 5 2000 0 rsx ∧ ptrs rsx = ups nn ∧ Below w.heap.size w wx)) (fun _ wx => match wx.cell? ⟨p, 4, none⟩ with | some v => (intOf v).toNat | none => 0)
            case atStart => exact ⟨i2, rfl, hm2, Q0⟩
            case round =>
              clear Q0
              obtain ⟨nn, rfl, hnn, HQ⟩ := hrel
              obtain ⟨wsx, rsx, Sx, Ex, Bx'⟩ := HQ.out
              have CN := count_any Sx.stk
              have c4 := Sx.stk.c4
              cases rsx with
              | nil =>
                have e0 : nn = 0 := by have := congrArg List.length Ex; simp [ptrs, ups] at this; omega
                subst e0
                rw [show ((([] : List Fr).length : Nat) : Int) = 0 from rfl] at CN
                have HBx := Hid.mk Bx'
                clear Sx Ex Bx' c4
                go_wp2_with (go_at_call 22; refine CN.mono ?_; rintro e w' ⟨rfl, hw⟩; subst w')
                go_ret
                exact ⟨rfl, HBx.out⟩
              | cons f r =>
                obtain ⟨nr, hnr⟩ : ∃ nr, nr = (ptrs r).length := ⟨_, rfl⟩
                obtain ⟨fn, hfn⟩ : ∃ fn, fn = f.ps.length := ⟨_, rfl⟩
                have e0 : nn = nr + fn := by have := congrArg List.length Ex; simp [ptrs, ups] at this; omega
                have er : ptrs r = ups nr := by
                  have h1 : (ptrs (f :: r)).take nr = ptrs r := by rw [hnr]; simp [ptrs]
                  rw [← h1, Ex, e0]
                  simp [ups, List.take_range, ← List.map_take]
                have ef : ∀ k (hk : k < f.ps.length), f.ps[k]'hk = (nr : Int) + k + 1 := fun k hk => by
                  have h1 : (ptrs (f :: r)).getD (nr + k) 0 = f.ps[k]'hk := by
                    simp only [ptrs, List.getD_eq_getElem?_getD]
                    rw [List.getElem?_append_right (by omega), hnr, Nat.add_sub_cancel_left, List.getElem?_eq_getElem hk]
                    rfl
                  rw [← h1, Ex, ups_get _ _ (by omega)]
                  omega
                have PO : Calls Tryd.prog 19 #[.pointer (some ⟨p, 0, none⟩)] wr fun e w' => ∃ o cp, e = .returned (.tuple #[fv f o cp, .int .i64 0]) ∧ PS w' o cp f.ps ∧ Ss w' p a b wsx 5 2000 0 r ∧ Kp p b wr w' := by
                  refine Calls.mono (pop_go Sx (by omega)) ?_
                  rintro e w' ⟨⟨h, _⟩ | ⟨f', r', o, cp, hfr, rfl, hps, _, S5⟩, K5⟩
                  · cases h
                  · cases hfr
                    rw [Nat.zero_min] at S5
                    exact ⟨o, cp, rfl, hps, S5, K5⟩
                obtain ⟨cc, hcc⟩ : ∃ cc : Nat, cc = r.length := ⟨_, rfl⟩
                have ec : (((f :: r).length : Nat) : Int) = (cc : Int) + 1 := by rw [hcc]; simp
                rw [ec] at CN c4
                have hcl : cc ≤ 65536 := by have h1 := Sx.stk.cn; have h2 := Sx.stk.un; simp at h1; omega
                have gt0 : (0 : Int) < (cc : Int) + 1 := by omega
                have HE : Hid (ptrs r = ups nr ∧ (∀ k (hk : k < f.ps.length), f.ps[k]'hk = (nr : Int) + k + 1) ∧ fn = f.ps.length ∧ nn = nr + fn ∧ cc = r.length) := ⟨er, ef, hfn, e0, hcc⟩
                have HBx := Hid.mk Bx'
                have hnr2 : nr ≤ 2000 := by omega
                have hfn2 : fn ≤ 2000 := by omega
                have en : (nn : Int) = (nr : Int) + fn := by omega
                unfold fv at PO
                obtain ⟨fk, hfk⟩ : ∃ x, x = f.k := ⟨_, rfl⟩
                obtain ⟨fa, hfa⟩ : ∃ x, x = f.a := ⟨_, rfl⟩
                obtain ⟨fb, hfb⟩ : ∃ x, x = f.b := ⟨_, rfl⟩
                simp only [← hfk, ← hfa, ← hfb, ← hfn] at PO
                rw [en]
                have HC4 := Hid.mk c4
                clear hfk hfa hfb hfn er ef e0 hcc ec en Sx Ex Bx' HQ c4 hnr
                go_wp2_with (first
                  | (go_at_call 22; refine CN.mono ?_; clear CN; rintro e w' ⟨rfl, hw⟩; subst w')
                  | (go_at_call 19; refine PO.mono ?_; clear PO; rintro e w6 ⟨o6, cp6, rfl, P6, S6, K6⟩; have HP6 := Hid.mk P6; have HS6 := Hid.mk S6; have HK6 := Hid.mk K6; have hcp6 := P6.cap; rw [← HE.out.2.2.1] at hcp6; clear P6 S6 K6))
                have B7 : Below w6.heap.size w6 (w6.alloc (Obj.cells #[.int .i64 fk, .int .i64 fa, .int .i64 fb, .slice o6 fn cp6] 36)) := by go_grown
                have FA7 := FrAt.fresh w6 fk fa fb (.slice o6 fn cp6)
                have HB7 := Hid.mk B7
                obtain ⟨zf, hzf⟩ : ∃ z, z = w6.heap.size := ⟨_, rfl⟩
                rw [← hzf] at FA7 ⊢
                generalize (w6.alloc (Obj.cells #[.int .i64 fk, .int .i64 fa, .int .i64 fb, .slice o6 fn cp6] 36)) = W7 at *
                obtain ⟨x0, x1, x2, x3⟩ := FA7
                obtain ⟨wo, hwo⟩ : ∃ x, x = wr := ⟨_, rfl⟩
                rw [← hwo] at HK6 HBx HC4
                clear hzf B7
                go_loopw [9, 12] (fun v9 v12 wx => ∃ (a9 a12 : Int) (kk : Nat), v9 = .int .i64 a9 ∧ v12 = .int .i64 a12 ∧ Hid (a9 = (nr : Int) + kk ∧ a12 = (kk : Int) - 1) ∧ kk ≤ fn ∧ wx = W7) (fun _ v12 _ => (intOf v12 + 1).toNat)
                case atStart => exact ⟨_, _, fn, rfl, rfl, ⟨rfl, rfl⟩, Nat.le_refl _, rfl⟩
                case round =>
                  obtain ⟨a9, a12, kk, rfl, rfl, HA, hkk, rfl⟩ := hrel
                  by_cases hk0 : 0 < kk
                  · obtain ⟨k', rfl⟩ : ∃ k', kk = k' + 1 := ⟨kk - 1, by omega⟩
                    obtain rfl : a12 = (k' : Int) := by have := HA.out; omega
                    have hk1 : k' < f.ps.length := by have := HE.out.2.2.1; omega
                    obtain ⟨gp, op, rfl, cx⟩ := (HP6.out.later HB7.out).get k' hk1
                    rw [HE.out.2.1 k' hk1] at cx
                    have e9 : a9 = (nr : Int) + k' + 1 := by have := HA.out; omega
                    rw [← e9] at cx
                    have ne9 : (a9 != a9) = false := by simp
                    have b9 : a9 ≤ 5000 := by omega
                    have b10 : 1 ≤ a9 := by omega
                    have b11 : (k' : Int) < fn := by omega
                    have b12 : k' < fn := by omega
                    have HE9 := Hid.mk e9
                    clear e9 HA
                    go_wp2
                    go_roundw
                    case rel => exact ⟨_, _, k', rfl, rfl, ⟨by have := HE9.out; omega, by first | rfl | omega⟩, by omega, by first | rfl | trivial⟩
                    case measure => simp [intOf] <;> omega
                  · obtain rfl : kk = 0 := by omega
                    obtain rfl : a9 = (nr : Int) := by have := HA.out; omega
                    obtain rfl : a12 = -1 := by have := HA.out; omega
                    clear HA
                    go_wp2
                    have c9 := (HS6.out.later HB7.out).stk.c4
                    have c10 := HC4.out
                    rw [hwo] at c10
                    refine ⟨⟨nr, rfl, hnr2, ⟨⟨wsx, r, HS6.out.later HB7.out, HE.out.1, belowOn (Kp.below HBx.out HK6.out HBx.out.size hst.1 hst.2.2) HB7.out⟩⟩⟩, ?_⟩
                    rw [c9, c10]
                    simp only [intOf]
                    have := HE.out.2.2.2.2
                    omega
      · have f1 : (n : Int) ≤ x6 := by have := hx6.out; omega
        obtain ⟨wsN, SN⟩ := HP.out.s
        have HSN := Hid.mk SN
        have HRN := Hid.mk HP.out.r
        have HBN := Hid.mk HP.out.b
        have HMN := HP.out.m
        obtain ⟨olds, hol⟩ : ∃ olds, olds = ptrs rs := ⟨_, rfl⟩
        have HOL : Hid (olds = ptrs rs) := ⟨hol⟩
        rw [← hol] at HRN
        obtain ⟨m, hm⟩ : ∃ m, m = olds.length := ⟨_, rfl⟩
        have HM : Hid (m = olds.length) := ⟨hm⟩
        rw [← hm] at HRN
        have hm2 : m ≤ 2000 := by rw [hm, hol]; have := ptrs_le rs; have := SN.stk.un; omega
        obtain ⟨ga5, cp5, rfl, hcp5⟩ := HRN.out.le
        have C5 : Hid (∀ i, i < m → ∃ g, ga5 = some ⟨g, 0, none⟩ ∧ base ≤ g ∧ g < wr.heap.size ∧ wr.cell? ⟨g, i, none⟩ = some (.int .i64 (olds.getD i 0))) := ⟨fun i hi => by
          rcases HRN.out with ⟨h0, _⟩ | ⟨_, ho⟩
          · omega
          · have ho' : Ri wr base (.slice ga5 m cp5) olds := by unfold Ri; rw [← hm]; exact ho
            rcases ho'.nm with ⟨_, h0⟩ | ⟨g, cap, e, _, hg, hn⟩
            · rw [h0] at hm; simp at hm; omega
            · simp only [Value.slice.injEq] at e
              obtain ⟨e1, _, _⟩ := e
              have := hn.cell i (by omega)
              exact ⟨g, e1, hg, World.block_lt_of_cell? _ _ this, this⟩⟩
        clear hol hm SN HP
        have Y1 : Bx (wr.alloc (Obj.cells #[.slice none 0 0] 34)) wr.heap.size #[.slice none 0 0] 34 := heap_alloc_new _ _
        have lN := HSN.out.lt
        have MP := map25 (HSN.out.later (show Below wr.heap.size wr (wr.alloc (Obj.cells #[.slice none 0 0] 34)) by go_grown)) Y1 (by omega) (by omega) (by omega)
        rw [← HOL.out, ← HM.out] at MP
        obtain ⟨y, hy⟩ : ∃ y, y = wr.heap.size := ⟨_, rfl⟩
        obtain ⟨wq, hwq⟩ : ∃ x, x = wr := ⟨_, rfl⟩
        have HYY : Hid (y = wq.heap.size) := ⟨by rw [hwq]; exact hy⟩
        rw [← hwq] at HBN C5 HMN HSN
        have emm : ((m : Int) != m) = false := by simp
        go_wp2_with (go_at_call 24; refine MP.mono ?_; clear MP; rintro e w5 ⟨⟨uu, rfl⟩, ⟨ws5, S5, _⟩, ⟨v7, Y7, R7⟩, K7⟩; obtain ⟨ga7, cp7, rfl, hcp7⟩ := R7.form; have y7 := Y7.cell 0; rw [← HM.out] at y7; have HY7 := Hid.mk Y7; have HR7 := Hid.mk R7; have HS5 := Hid.mk S5; have HK7 := Hid.mk K7; clear Y7 R7 S5 K7)
        simp only [← hy] at HY7 HR7 HK7 y7 ⊢
        have HB5 : Hid (Below w.heap.size w w5) := ⟨by
          have k := HK7.out
          have b1 := HBN.out
          have b2 : Below w.heap.size w (wr.alloc (Obj.cells #[.slice none 0 0] 34)) := belowOn (show Below w.heap.size w wr by rw [← hwq]; exact b1) (by go_grown)
          exact ⟨k.os.trans b2.os, k.tape.trans b2.tape, k.output.trans b2.output, Nat.le_trans b2.size k.size, fun j hj => (k.block j (Nat.lt_of_lt_of_le hj b2.size) (by omega) (by omega) (by have := HYY.out; have := b1.size; omega)).trans (b2.block j hj)⟩⟩
        have CA : Hid (∀ i, i < m → ∃ g, ga5 = some ⟨g, 0, none⟩ ∧ w5.cell? ⟨g, i, none⟩ = some (.int .i64 (olds.getD i 0))) := ⟨fun i hi => by
          obtain ⟨g, e1, h1, h2, h3⟩ := C5.out i hi
          rw [hwq] at h2 h3
          refine ⟨g, e1, (World.cell?_of_block (w := wr) (a := ⟨g, i, none⟩) ((HK7.out.block g (by simp; omega) (by omega) (by omega) (by omega)).trans (Below.heap_alloc _ _ _ h2))).trans h3⟩⟩
        have CM : Hid (∀ i, i < m → ∃ g, ga7 = some ⟨g, 0, none⟩ ∧ w5.cell? ⟨g, i, none⟩ = some (.int .i64 (olds.getD i 0))) := ⟨fun i hi => by
          rcases HR7.out.nm with ⟨_, h0⟩ | ⟨g, cap, e, _, hg, hn⟩
          · have := HM.out; rw [h0] at this; simp at this; omega
          · simp only [Value.slice.injEq] at e
            obtain ⟨e1, _, _⟩ := e
            exact ⟨g, e1, hn.cell i (by have := HM.out; omega)⟩⟩
        have hcp7' : m ≤ cp7 := by have := HM.out; omega
        have HY8 : Hid (Bx w5 y #[.slice ga7 m cp7] 34) := ⟨by rw [HM.out]; exact HY7.out⟩
        have HUP : Hid (ptrs (refill rs (ups m)) = ups m) := ⟨ptrs_refill rs (ups m) (by rw [ups_len, HM.out, HOL.out])⟩
        clear hy hwq C5 HK7 HR7 HY7 y7 HRN HBN HYY HSN lN hcp7 HMN
        go_loopw [8] (fun cv wx => ∃ i : Nat, cv = .int .i64 i ∧ i ≤ m ∧ Hid (Below w5.heap.size w5 wx)) (fun cv _ => m - (intOf cv).toNat)
        case atStart => exact ⟨0, rfl, Nat.zero_le _, ⟨Below.refl _ _⟩⟩
        case round =>
          obtain ⟨i2, rfl, hi2, HB⟩ := hrel
          by_cases hlt3 : i2 < m
          · obtain ⟨g1, rfl, c1⟩ := CA.out i2 hlt3
            obtain ⟨g2, rfl, c2⟩ := CM.out i2 hlt3
            have d1 : wr.cell? ⟨g1, i2, none⟩ = some (.int .i64 (olds.getD i2 0)) := (HB.out.cell (p := ⟨g1, i2, none⟩) (World.block_lt_of_cell? _ _ c1)).trans c1
            have d2 : wr.cell? ⟨g2, i2, none⟩ = some (.int .i64 (olds.getD i2 0)) := (HB.out.cell (p := ⟨g2, i2, none⟩) (World.block_lt_of_cell? _ _ c2)).trans c2
            have d3 : wr.cell? ⟨y, 0, none⟩ = some (.slice (some ⟨g2, 0, none⟩) m cp7) := by rw [Joins.cell_of_block ((HB.out.block y HY8.out.lt).trans HY8.out)]; rfl
            generalize olds.getD i2 0 = od at *
            have eo : (od != od) = false := by simp
            have hlt4 : (i2 : Int) < m := by omega
            clear c1 c2
            go_wp2
            go_quiet (fail)
            go_wp2
            exact ⟨⟨i2 + 1, by go_num, by omega, ⟨below_drewN HB.out _⟩⟩, by simp [intOf]; omega⟩
          · obtain rfl : i2 = m := by omega
            have HS6 : Hid (Ss wr p a b ws5 5 2000 0 (refill rs (ups i2))) := ⟨HS5.out.later HB.out⟩
            have HB6 : Hid (Below w.heap.size w wr) := ⟨belowOn HB5.out HB.out⟩
            have Q0 : Hid (∃ wsx rsx, Ss wr p a b wsx 5 2000 0 rsx ∧ ptrs rsx = ups i2 ∧ Below w.heap.size w wr) := ⟨⟨ws5, _, HS6.out, HUP.out, HB6.out⟩⟩
            clear HS6 HB6 HS5 HB
            go_wp2
            go_loopw [9] (fun cv wx => ∃ nn : Nat, cv = .int .i64 nn ∧ nn ≤ 2000 ∧ Hid (∃ wsx rsx, Ss wx p a b wsx 5 2000 0 rsx ∧ ptrs rsx = ups nn ∧ Below w.heap.size w wx)) (fun _ wx => match wx.cell? ⟨p, 4, none⟩ with | some v => (intOf v).toNat | none => 0)
            case atStart => exact ⟨i2, rfl, hm2, Q0⟩
            case round =>
              clear Q0
              obtain ⟨nn, rfl, hnn, HQ⟩ := hrel
              obtain ⟨wsx, rsx, Sx, Ex, Bx'⟩ := HQ.out
              have CN := count_any Sx.stk
              have c4 := Sx.stk.c4
              cases rsx with
              | nil =>
                have e0 : nn = 0 := by have := congrArg List.length Ex; simp [ptrs, ups] at this; omega
                subst e0
                rw [show ((([] : List Fr).length : Nat) : Int) = 0 from rfl] at CN
                have HBx := Hid.mk Bx'
                clear Sx Ex Bx' c4
                go_wp2_with (go_at_call 22; refine CN.mono ?_; rintro e w' ⟨rfl, hw⟩; subst w')
                go_ret
                exact ⟨rfl, HBx.out⟩
              | cons f r =>
                obtain ⟨nr, hnr⟩ : ∃ nr, nr = (ptrs r).length := ⟨_, rfl⟩
                obtain ⟨fn, hfn⟩ : ∃ fn, fn = f.ps.length := ⟨_, rfl⟩
                have e0 : nn = nr + fn := by have := congrArg List.length Ex; simp [ptrs, ups] at this; omega
                have er : ptrs r = ups nr := by
                  have h1 : (ptrs (f :: r)).take nr = ptrs r := by rw [hnr]; simp [ptrs]
                  rw [← h1, Ex, e0]
                  simp [ups, List.take_range, ← List.map_take]
                have ef : ∀ k (hk : k < f.ps.length), f.ps[k]'hk = (nr : Int) + k + 1 := fun k hk => by
                  have h1 : (ptrs (f :: r)).getD (nr + k) 0 = f.ps[k]'hk := by
                    simp only [ptrs, List.getD_eq_getElem?_getD]
                    rw [List.getElem?_append_right (by omega), hnr, Nat.add_sub_cancel_left, List.getElem?_eq_getElem hk]
                    rfl
                  rw [← h1, Ex, ups_get _ _ (by omega)]
                  omega
                have PO : Calls Tryd.prog 19 #[.pointer (some ⟨p, 0, none⟩)] wr fun e w' => ∃ o cp, e = .returned (.tuple #[fv f o cp, .int .i64 0]) ∧ PS w' o cp f.ps ∧ Ss w' p a b wsx 5 2000 0 r ∧ Kp p b wr w' := by
                  refine Calls.mono (pop_go Sx (by omega)) ?_
                  rintro e w' ⟨⟨h, _⟩ | ⟨f', r', o, cp, hfr, rfl, hps, _, S5⟩, K5⟩
                  · cases h
                  · cases hfr
                    rw [Nat.zero_min] at S5
                    exact ⟨o, cp, rfl, hps, S5, K5⟩
                obtain ⟨cc, hcc⟩ : ∃ cc : Nat, cc = r.length := ⟨_, rfl⟩
                have ec : (((f :: r).length : Nat) : Int) = (cc : Int) + 1 := by rw [hcc]; simp
                rw [ec] at CN c4
                have hcl : cc ≤ 65536 := by have h1 := Sx.stk.cn; have h2 := Sx.stk.un; simp at h1; omega
                have gt0 : (0 : Int) < (cc : Int) + 1 := by omega
                have HE : Hid (ptrs r = ups nr ∧ (∀ k (hk : k < f.ps.length), f.ps[k]'hk = (nr : Int) + k + 1) ∧ fn = f.ps.length ∧ nn = nr + fn ∧ cc = r.length) := ⟨er, ef, hfn, e0, hcc⟩
                have HBx := Hid.mk Bx'
                have hnr2 : nr ≤ 2000 := by omega
                have hfn2 : fn ≤ 2000 := by omega
                have en : (nn : Int) = (nr : Int) + fn := by omega
                unfold fv at PO
                obtain ⟨fk, hfk⟩ : ∃ x, x = f.k := ⟨_, rfl⟩
                obtain ⟨fa, hfa⟩ : ∃ x, x = f.a := ⟨_, rfl⟩
                obtain ⟨fb, hfb⟩ : ∃ x, x = f.b := ⟨_, rfl⟩
                simp only [← hfk, ← hfa, ← hfb, ← hfn] at PO
                rw [en]
                have HC4 := Hid.mk c4
                clear hfk hfa hfb hfn er ef e0 hcc ec en Sx Ex Bx' HQ c4 hnr
                go_wp2_with (first
                  | (go_at_call 22; refine CN.mono ?_; clear CN; rintro e w' ⟨rfl, hw⟩; subst w')
                  | (go_at_call 19; refine PO.mono ?_; clear PO; rintro e w6 ⟨o6, cp6, rfl, P6, S6, K6⟩; have HP6 := Hid.mk P6; have HS6 := Hid.mk S6; have HK6 := Hid.mk K6; have hcp6 := P6.cap; rw [← HE.out.2.2.1] at hcp6; clear P6 S6 K6))
                have B7 : Below w6.heap.size w6 (w6.alloc (Obj.cells #[.int .i64 fk, .int .i64 fa, .int .i64 fb, .slice o6 fn cp6] 36)) := by go_grown
                have FA7 := FrAt.fresh w6 fk fa fb (.slice o6 fn cp6)
                have HB7 := Hid.mk B7
                obtain ⟨zf, hzf⟩ : ∃ z, z = w6.heap.size := ⟨_, rfl⟩
                rw [← hzf] at FA7 ⊢
                generalize (w6.alloc (Obj.cells #[.int .i64 fk, .int .i64 fa, .int .i64 fb, .slice o6 fn cp6] 36)) = W7 at *
                obtain ⟨x0, x1, x2, x3⟩ := FA7
                obtain ⟨wo, hwo⟩ : ∃ x, x = wr := ⟨_, rfl⟩
                rw [← hwo] at HK6 HBx HC4
                clear hzf B7
                go_loopw [9, 12] (fun v9 v12 wx => ∃ (a9 a12 : Int) (kk : Nat), v9 = .int .i64 a9 ∧ v12 = .int .i64 a12 ∧ Hid (a9 = (nr : Int) + kk ∧ a12 = (kk : Int) - 1) ∧ kk ≤ fn ∧ wx = W7) (fun _ v12 _ => (intOf v12 + 1).toNat)
                case atStart => exact ⟨_, _, fn, rfl, rfl, ⟨rfl, rfl⟩, Nat.le_refl _, rfl⟩
                case round =>
                  obtain ⟨a9, a12, kk, rfl, rfl, HA, hkk, rfl⟩ := hrel
                  by_cases hk0 : 0 < kk
                  · obtain ⟨k', rfl⟩ : ∃ k', kk = k' + 1 := ⟨kk - 1, by omega⟩
                    obtain rfl : a12 = (k' : Int) := by have := HA.out; omega
                    have hk1 : k' < f.ps.length := by have := HE.out.2.2.1; omega
                    obtain ⟨gp, op, rfl, cx⟩ := (HP6.out.later HB7.out).get k' hk1
                    rw [HE.out.2.1 k' hk1] at cx
                    have e9 : a9 = (nr : Int) + k' + 1 := by have := HA.out; omega
                    rw [← e9] at cx
                    have ne9 : (a9 != a9) = false := by simp
                    have b9 : a9 ≤ 5000 := by omega
                    have b10 : 1 ≤ a9 := by omega
                    have b11 : (k' : Int) < fn := by omega
                    have b12 : k' < fn := by omega
                    have HE9 := Hid.mk e9
                    clear e9 HA
                    go_wp2
                    go_roundw
                    case rel => exact ⟨_, _, k', rfl, rfl, ⟨by have := HE9.out; omega, by first | rfl | omega⟩, by omega, by first | rfl | trivial⟩
                    case measure => simp [intOf] <;> omega
                  · obtain rfl : kk = 0 := by omega
                    obtain rfl : a9 = (nr : Int) := by have := HA.out; omega
                    obtain rfl : a12 = -1 := by have := HA.out; omega
                    clear HA
                    go_wp2
                    have c9 := (HS6.out.later HB7.out).stk.c4
                    have c10 := HC4.out
                    rw [hwo] at c10
                    refine ⟨⟨nr, rfl, hnr2, ⟨⟨wsx, r, HS6.out.later HB7.out, HE.out.1, belowOn (Kp.below HBx.out HK6.out HBx.out.size hst.1 hst.2.2) HB7.out⟩⟩⟩, ?_⟩
                    rw [c9, c10]
                    simp only [intOf]
                    have := HE.out.2.2.2.2
                    omega
end Go.Proofs.YtglimbpnekephaaDoor
