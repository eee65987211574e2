/- Package stack: Map, for whatever function that tells one number of each pointer. -/
import Derived.Test.YtglimbpnekephaaDoorMpe
namespace Go.Proofs.YtglimbpnekephaaDoor
open Go.RowKit
set_option linter.unusedVariables false
set_option linter.unusedSimpArgs false

/-- what lies below base, but for the block y, stays -/
structure Kz (base y : Nat) (W W' : World) : Prop where
  os : W'.os = W.os
  tape : W'.tape = W.tape
  output : W'.output = W.output
  size : W.heap.size ≤ W'.heap.size
  block : ∀ k, k < base → k ≠ y → W'.heap[k]? = W.heap[k]?
/-- all old blocks but these three stay -/
structure K3 (p b y : Nat) (w w' : World) : Prop where
  os : w'.os = w.os
  tape : w'.tape = w.tape
  output : w'.output = w.output
  size : w.heap.size ≤ w'.heap.size
  block : ∀ k, k < w.heap.size → k ≠ p → k ≠ b → k ≠ y → w'.heap[k]? = w.heap[k]?
theorem K3.kp {p b y : Nat} {w u v : World} (h : K3 p b y w u) (k : Kp p b u v) : K3 p b y w v :=
  ⟨k.os.trans h.os, k.tape.trans h.tape, k.output.trans h.output, Nat.le_trans h.size k.size, fun i hi h1 h2 h3 => (k.block i (Nat.lt_of_lt_of_le hi h.size) h1 h2).trans (h.block i hi h1 h2 h3)⟩
theorem K3.kz {p b y base : Nat} {w u v : World} (h : K3 p b y w u) (k : Kz base y u v) (hb : w.heap.size ≤ base) : K3 p b y w v :=
  ⟨k.os.trans h.os, k.tape.trans h.tape, k.output.trans h.output, Nat.le_trans h.size k.size, fun i hi h1 h2 h3 => (k.block i (by omega) h3).trans (h.block i hi h1 h2 h3)⟩
theorem K3.set {p b y g j : Nat} {w u : World} {v : Value} (h : K3 p b y w u) (hg : w.heap.size ≤ g) : K3 p b y w (u.setCell ⟨g, j, none⟩ v) :=
  ⟨h.os, h.tape, h.output, by simpa using h.size, fun i hi h1 h2 h3 => (Below.heap_setCell _ _ _ _ (show i ≠ g by omega)).trans (h.block i hi h1 h2 h3)⟩
/-- the first i of these, then the others -/
def part (news olds : List Int) (i : Nat) : List Int := news.take i ++ olds.drop i
theorem part_len {news olds : List Int} (h : news.length = olds.length) (i : Nat) : (part news olds i).length = olds.length := by simp [part]; omega
theorem part_get {news olds : List Int} (h : news.length = olds.length) (i : Nat) (hi : i < olds.length) : (part news olds i).getD i 0 = olds.getD i 0 := by
  simp only [part, List.getD_eq_getElem?_getD]
  rw [List.getElem?_append_right (by simp; omega)]
  simp [Nat.min_eq_left (show i ≤ news.length by omega)]
theorem part_set {news olds : List Int} (h : news.length = olds.length) (i : Nat) (hi : i < olds.length) : (part news olds i).set i (news.getD i 0) = part news olds (i + 1) := by
  have hn : i < news.length := by omega
  simp only [part]
  rw [List.set_append_right _ _ (by simp; omega), List.take_succ_eq_append_getElem hn, List.append_assoc]
  congr 1
  rw [show i - (news.take i).length = 0 by simp; omega]
  rw [List.drop_eq_getElem_cons hi, List.set_cons_zero]
  simp only [List.getD_eq_getElem?_getD, List.getElem?_eq_getElem hn, Option.getD_some, List.cons_append, List.nil_append]
theorem part_all {news olds : List Int} (h : news.length = olds.length) : part news olds olds.length = news := by
  simp [part, ← h]
theorem part_none {news olds : List Int} : part news olds 0 = olds := by simp [part]
/-- all below base stays but the blocks y and g -/
structure Kg (base y g : Nat) (W W' : World) : Prop where
  os : W'.os = W.os
  tape : W'.tape = W.tape
  output : W'.output = W.output
  size : W.heap.size ≤ W'.heap.size
  block : ∀ k, k < base → k ≠ y → k ≠ g → W'.heap[k]? = W.heap[k]?
theorem Kg.refl (base y g : Nat) (W : World) : Kg base y g W W := ⟨rfl, rfl, rfl, Nat.le_refl _, fun _ _ _ _ => rfl⟩
theorem Kg.kz {base y g : Nat} {A B C : World} (h : Kg base y g A B) (k : Kz base y B C) : Kg base y g A C :=
  ⟨k.os.trans h.os, k.tape.trans h.tape, k.output.trans h.output, Nat.le_trans h.size k.size, fun i h1 h2 h3 => (k.block i h1 h2).trans (h.block i h1 h2 h3)⟩
theorem Kg.set {base y g j : Nat} {A B : World} {v : Value} (h : Kg base y g A B) : Kg base y g A (B.setCell ⟨g, j, none⟩ v) :=
  ⟨h.os, h.tape, h.output, by simpa using h.size, fun i h1 h2 h3 => (Below.heap_setCell _ _ _ _ h3).trans (h.block i h1 h2 h3)⟩
set_option maxRecDepth 100000 in
set_option maxHeartbeats 8000000 in
theorem map_ok {w : World} {p a b F N y : Nat} {ws : List Int} {rs : List Fr} (h : Ss w p a b ws F N 0 rs) (yl : y < w.heap.size) (yp : y ≠ p) (ya : y ≠ a) (yb : y ≠ b)
    (q : Nat) (news : List Int) (hnl : news.length = (ptrs rs).length) (hnv : ∀ v ∈ news, 0 ≤ v ∧ v ≤ 524288)
    (J : Nat → Nat → World → Prop) (hJ0 : ∀ W, w.heap.size ≤ W.heap.size → W.heap[y]? = w.heap[y]? → J W.heap.size 0 W)
    (hJs : ∀ base i W W', J base i W → W.heap.size ≤ W'.heap.size → W'.heap[y]? = W.heap[y]? → (∀ k, base ≤ k → k < W.heap.size → W'.heap[k]? = W.heap[k]?) → J base i W')
    (TU : ∀ base i W, w.heap.size ≤ base → base ≤ W.heap.size → J base i W → i < (ptrs rs).length → Calls Tryd.prog 51 #[.int .u64 ((ptrs rs).getD i 0), .func (.func q) #[] #[.pointer (some ⟨y, 0, none⟩)]] W fun e w' => e = .returned (.int .u64 (news.getD i 0)) ∧ J base (i + 1) w' ∧ Kz base y W w') :
    Calls Tryd.prog 24 #[.pointer (some ⟨p, 0, none⟩), .func (.func q) #[] #[.pointer (some ⟨y, 0, none⟩)]] w fun e w' => (∃ u, e = .returned u) ∧ (∃ ws', Ss w' p a b ws' F N 0 (refill rs news) ∧ Bes F N ws ws') ∧ (∃ base, w.heap.size ≤ base ∧ base ≤ w'.heap.size ∧ J base (ptrs rs).length w') ∧ K3 p b y w w' := by
  obtain ⟨pl, al, bl⟩ := h.lt
  have hU := h.stk.un
  have hN := h.stk.nn
  have hcn := h.stk.cn
  have hfit := h.stk.fit
  have hwl := h.stk.ar.len
  have hpa := h.stk.pa
  have hpb := h.stk.pb
  have hpl := plc_len rs
  have hple := ptrs_le rs
  have HPL := Hid.mk hpl
  have HNL := Hid.mk hnl
  clear hpl hnl
  have Hh := Hid.mk h
  obtain ⟨z, hz⟩ : ∃ z, z = w.heap.size := ⟨_, rfl⟩
  have B2 : Below w.heap.size w ((w.alloc (Obj.cells #[.pointer (some ⟨p, 0, none⟩)] 24)).alloc (Obj.cells #[.int .i64 0] 3)) := by go_grown
  have S2 := h.stk.later B2
  have Z2 : Bx ((w.alloc (Obj.cells #[.pointer (some ⟨p, 0, none⟩)] 24)).alloc (Obj.cells #[.int .i64 0] 3)) z #[.pointer (some ⟨p, 0, none⟩)] 24 := by rw [hz]; exact (Below.heap_alloc _ _ _ (by simp)).trans (heap_alloc_new _ _)
  have A2 : Bx ((w.alloc (Obj.cells #[.pointer (some ⟨p, 0, none⟩)] 24)).alloc (Obj.cells #[.int .i64 0] 3)) (z + 1) #[.int .i64 0] 3 := by rw [hz]; have := heap_alloc_new (w.alloc (Obj.cells #[.pointer (some ⟨p, 0, none⟩)] 24)) (Obj.cells #[.int .i64 0] 3); simpa [Bx] using this
  have HB2 := Hid.mk B2
  have HS2 := Hid.mk S2
  have HZ2 := Hid.mk Z2
  have HA2 := Hid.mk A2
  have c5 : (w.alloc (Obj.cells #[.pointer (some ⟨p, 0, none⟩)] 24)).cell? ⟨p, 5, none⟩ = some (.int .i64 (0 : Int)) := Lib.cell?_alloc_some _ h.stk.c5
  clear B2 S2 Z2 A2 h
  have he : ∀ w : World, (binOp .eql 59 (.func (.func q) #[] #[.pointer (some ⟨y, 0, none⟩)]) .nilFunc).run Tryd.prog w = .ok (.bool false) w := fun _ => rfl
  have hmf : ∀ (fn : Fn) (first cap : Array Value) (w : World), (Instr.makeFunc fn first cap).run Tryd.prog w = .ok (.func fn first cap) w := fun _ _ _ _ => rfl
  go_enter_defers Tryd.func24, Tryd.ntmps24
  go_wp2
  simp only [← hz]
  obtain ⟨us, hus⟩ : ∃ us, us = wd rs := ⟨_, rfl⟩
  obtain ⟨u, hu⟩ : ∃ u, u = us.length := ⟨_, rfl⟩
  have HU : Hid (us = wd rs ∧ u = us.length) := ⟨hus, hu⟩
  rw [← hus, ← hu] at hU hcn HS2 hple
  have hzp : p < z := by omega
  have hza : a < z := by omega
  have hzb : b < z := by omega
  have hzy : y < z := by omega
  have HZW : Hid (z = w.heap.size) := ⟨hz⟩
  have s2 : ((w.alloc (Obj.cells #[.pointer (some ⟨p, 0, none⟩)] 24)).alloc (Obj.cells #[.int .i64 0] 3)).heap.size = z + 1 + 1 := by rw [hz]; simp
  clear hz hus hu c5 he
  generalize ((w.alloc (Obj.cells #[.pointer (some ⟨p, 0, none⟩)] 24)).alloc (Obj.cells #[.int .i64 0] 3)) = W2 at *
  have m0 : W2.cell? ⟨z, 0, none⟩ = some (.pointer (some ⟨p, 0, none⟩)) := HZ2.out.cell 0
  have m3 := HS2.out.c3
  have m5 := HS2.out.c5
  have mz := HS2.out.z 5
  have n1 : ¬ z = p := by omega
  have n2 : ¬ p = z := by omega
  have k3 := ((HS2.out.keep u).later (below_drew _)).c3
  go_region_held3 (fun W' => W'.cell? ⟨z, 0, none⟩ = some (.pointer (some ⟨p, 0, none⟩)) ∧ W'.cell? ⟨p, 3, none⟩ = some (.int .i64 u)) (go_keep) (fail)
  have HG3 : Hid (W2.grownBy (W2.setCell ⟨p, 5, none⟩ (.int .i64 u)).drew (some p)) := ⟨grown_dd (grown_set _ _ _ _)⟩
  have HS3 : Hid (Stk (W2.setCell ⟨p, 5, none⟩ (.int .i64 u)).drew p a b ws F N u rs.length u) := ⟨(HS2.out.keep u).later (below_drew _)⟩
  clear m0 m3 m5 mz k3
  generalize (W2.setCell ⟨p, 5, none⟩ (.int .i64 u)).drew = W3 at *
  have HZ3 : Hid (Bx W3 z #[.pointer (some ⟨p, 0, none⟩)] 24) := ⟨(HG3.out.block z HZ2.out.lt (by simp <;> omega)).trans HZ2.out⟩
  have HA3 : Hid (Bx W3 (z + 1) #[.int .i64 0] 3) := ⟨(HG3.out.block (z + 1) HA2.out.lt (by simp <;> omega)).trans HA2.out⟩
  have HR3 : Hid (Ss W3 p a b ws F N u rs) := ⟨⟨by rw [← HU.out.1, ← HU.out.2]; exact HS3.out, Hh.out.ok, Hh.out.eq⟩⟩
  have HY3 : Hid (W3.heap[y]? = w.heap[y]?) := ⟨(HG3.out.block y (Nat.lt_of_lt_of_le yl HB2.out.size) (by simpa using yp)).trans (HB2.out.block y yl)⟩
  have HK3 : Hid (K3 p b y w W3) := ⟨by
    have k2 : K3 p b y w W2 := ⟨HB2.out.os, HB2.out.tape, HB2.out.output, HB2.out.size, fun k hk _ _ _ => HB2.out.block k hk⟩
    exact k2.kp (Kp.box HG3.out)⟩
  have CO := copied_ok HR3.out
  rw [← HU.out.1, ← HU.out.2] at CO
  have m3 : W3.cell? ⟨z, 0, none⟩ = some (.pointer (some ⟨p, 0, none⟩)) := HZ3.out.cell 0
  have s3 := HG3.out.size
  clear HG3 HZ2 HA2 HS2 HB2
  go_wp2_with (first
    | (go_at_call 49; refine CO.mono ?_; clear CO; rintro e W4 ⟨g, rfl, V4, hg4, B4⟩; have PL := places_ok (cap := u) (rs := rs) (W := W4) (g := g) (by rw [← HU.out.1]; exact V4) (by rw [← HU.out.1, ← HU.out.2]; exact Nat.le_refl _) Hh.out.ok (by rw [← HU.out.1, ← HU.out.2]; omega); rw [← HU.out.1, ← HU.out.2] at PL; have HV4 := Hid.mk V4; have HB4 := Hid.mk B4; clear V4 B4)
    | (go_at_call 50; refine PL.mono ?_; clear PL; rintro e W5 ⟨o, cp, rfl, P5, ho5, B5⟩))
  obtain ⟨olds, hol⟩ : ∃ olds, olds = ptrs rs := ⟨_, rfl⟩
  have HO : Hid (olds = ptrs rs) := ⟨hol⟩
  have hnl := HNL.out
  have hpl := HPL.out
  rw [← hol] at hnl hpl hple TU
  obtain ⟨m, hm⟩ : ∃ m, m = (plc rs).length := ⟨_, rfl⟩
  have HMm : Hid (m = (plc rs).length ∧ m = olds.length) := ⟨hm, by rw [hm, hpl]⟩
  rw [← hm]
  have hml : m = olds.length := HMm.out.2
  have hm6 : m ≤ 65536 := by omega
  have g3 : W3.heap.size ≤ W4.heap.size := HB4.out.size
  have g4 := HV4.out.lt
  have g5 := B5.size
  have hgz : z + 1 < g := by omega
  obtain ⟨base, hbase⟩ : ∃ base, base = W5.heap.size := ⟨_, rfl⟩
  have HV5 : Hid (Bx W5 g (row (wd (refill rs (part news olds 0)))).toArray 50) := ⟨by
    rw [part_none, HO.out, refill_self, ← HU.out.1]
    exact (B5.block g g4).trans HV4.out⟩
  have HJ5 : Hid (J base 0 W5) := ⟨by
    rw [hbase]
    exact hJ0 W5 (by have := HK3.out.size; omega) ((B5.block y (by omega)).trans ((HB4.out.block y (by omega)).trans HY3.out))⟩
  have HS5 : Hid (Ss W5 p a b ws F N u rs) := ⟨(HR3.out.later HB4.out).later B5⟩
  have HZ5 : Hid (Bx W5 z #[.pointer (some ⟨p, 0, none⟩)] 24) := ⟨(B5.block z (by omega)).trans ((HB4.out.block z HZ3.out.lt).trans HZ3.out)⟩
  have HA5 : Hid (Bx W5 (z + 1) #[.int .i64 0] 3) := ⟨(B5.block (z + 1) (by omega)).trans ((HB4.out.block (z + 1) HA3.out.lt).trans HA3.out)⟩
  have HK5 : Hid (K3 p b y w W5) := ⟨(HK3.out.kp (Kp.of HB4.out)).kp (Kp.of B5)⟩
  have HP5 := Hid.mk P5
  have HBa : Hid (base = W5.heap.size) := ⟨hbase⟩
  have b1 : g < base := by omega
  have b2 : z + 1 < base := by omega
  have HNL2 := Hid.mk hnl
  clear hol hm hpl P5 B5 hbase m3 HNL hnl hml
  go_loopw [33] (fun cv wr => ∃ i : Nat, cv = .int .i64 i ∧ i ≤ m ∧ Hid (Bx wr g (row (wd (refill rs (part news olds i)))).toArray 50) ∧ Hid (J base i wr) ∧ Hid (Kg base y g W5 wr)) (fun cv _ => m - (intOf cv).toNat)
  case atStart => exact ⟨0, rfl, Nat.zero_le _, HV5, HJ5, ⟨Kg.refl _ _ _ _⟩⟩
  case round =>
    obtain ⟨i, rfl, hi, HV, HJ, HK⟩ := hrel
    have hbs : base ≤ wr.heap.size := by have h1 := HBa.out; have h2 := HK.out.size; omega
    by_cases hlt : i < m
    · have hnl := HNL2.out
      have kl : i < (plc rs).length := by have := HMm.out; omega
      have hol : i < olds.length := by have := HMm.out; omega
      have pg := refill_get rs (part news olds i) (by rw [part_len hnl, HO.out]) i kl
      rw [part_get hnl i hol] at pg
      have ps := refill_set rs (part news olds i) (by rw [part_len hnl, HO.out]) i kl (news.getD i 0)
      rw [part_set hnl i hol] at ps
      have plt := plc_lt rs i kl
      have wl := wd_refill_len rs (part news olds i) (by rw [part_len hnl, HO.out])
      rw [← HU.out.1] at plt wl
      have TI := TU base i wr (by have := HBa.out; have := HK5.out.size; omega) hbs HJ.out hol
      obtain ⟨gp, op, rfl, cx⟩ := HP5.out.get i (by simpa using kl)
      have gpl0 : gp < W5.heap.size := World.block_lt_of_cell? _ _ cx
      have gpl : gp < base := by have := HBa.out; omega
      have gph : W4.heap.size ≤ gp := ho5 _ rfl
      have cx' : wr.cell? ⟨gp, op + i, none⟩ = some (.int .i64 (((plc rs)[i]'kl : Nat) : Int)) := (World.cell?_of_block (w := W5) (a := ⟨gp, op + i, none⟩) (HK.out.block gp gpl (by omega) (by omega))).trans (by simpa using cx)
      have cw : wr.cell? ⟨g, (plc rs)[i]'kl, none⟩ = some (.int .u64 (olds.getD i 0)) := by rw [HV.out.cell, List.getElem?_toArray, row_get _ _ (by rw [wl]; exact plt), pg]
      have HPS := Hid.mk ps
      generalize (plc rs)[i]'kl = at' at *
      have at1 : at' < u := by have := HU.out.2; omega
      have at2 : (at' : Int) < u := by omega
      have hcap : m ≤ cp := by have h1 := HP5.out.cap; have h2 := HMm.out.1; simp at h1; omega
      have hlt' : (i : Int) < m := by omega
      generalize hnw : news.getD i 0 = nw at *
      generalize hod : olds.getD i 0 = od at *
      have gy : y ≠ g := by omega
      clear pg ps cx plt hnw hod hnl hol
      go_wp2_with (go_at_call 51; refine TI.mono ?_; clear TI; rintro e w6 ⟨rfl, J6, K6⟩; have V6 : Bx w6 g (row (wd (refill rs (part news olds i)))).toArray 50 := (K6.block g b1 (by omega)).trans HV.out; have v6 : w6.cell? ⟨g, at', none⟩ = some (.int .u64 _) := (by rw [V6.cell, List.getElem?_toArray]; exact row_get _ _ (by rw [wl]; have := HU.out.2; omega)); have z6 := V6.z at'; have HJ6 := Hid.mk J6; have HK6 := Hid.mk K6; have HV6 := Hid.mk V6; clear J6 K6 V6)
      refine ⟨⟨i + 1, by go_num, by omega, ⟨?_⟩, ⟨?_⟩, ⟨(HK.out.kz HK6.out).set⟩⟩, by simp [intOf]; omega⟩
      · have := Joins.block_setCell (i := at') HV6.out (.int .u64 nw)
        rw [← HPS.out, row_set]
        simpa [Bx] using this
      · exact hJs base (i + 1) w6 _ HJ6.out (by simp) (Below.heap_setCell _ _ _ _ gy) (fun k hk _ => Below.heap_setCell _ _ _ _ (show k ≠ g by omega))
    · obtain rfl : i = m := by omega
      obtain ⟨us2, hus2⟩ : ∃ us2, us2 = wd (refill rs news) := ⟨_, rfl⟩
      have HU2 : Hid (us2 = wd (refill rs news)) := ⟨hus2⟩
      have epa : part news olds i = news := by rw [HMm.out.2]; exact part_all HNL2.out
      rw [epa, ← hus2] at HV
      have l2 : us2.length = u := by rw [hus2, wd_refill_len rs news (by rw [HNL2.out, HO.out]), ← HU.out.1, HU.out.2]
      have HL2 := Hid.mk l2
      obtain ⟨wc, hwc⟩ : ∃ x, x = wr := ⟨_, rfl⟩
      have HSc : Hid (Stk wc p a b ws F N u rs.length u) := ⟨by
        rw [hwc]
        have h5 := HS5.out.stk
        rw [← HU.out.1, ← HU.out.2] at h5
        exact h5.same (HK.out.block p (by omega) (by omega) (by omega)) (HK.out.block a (by omega) (by omega) (by omega)) (HK.out.block b (by omega) (by omega) (by omega))⟩
      have HZc : Hid (Bx wc z #[.pointer (some ⟨p, 0, none⟩)] 24) := ⟨by rw [hwc]; exact (HK.out.block z (by omega) (by omega) (by omega)).trans HZ5.out⟩
      have HAc : Hid (Bx wc (z + 1) #[.int .i64 0] 3) := ⟨by rw [hwc]; exact (HK.out.block (z + 1) (by omega) (by omega) (by omega)).trans HA5.out⟩
      have HVc : Hid (Bx wc g (row us2).toArray 50) := ⟨by rw [hwc]; exact HV.out⟩
      have HJc : Hid (J base i wc) := ⟨by rw [hwc]; exact HJ.out⟩
      have HKc : Hid (K3 p b y w wc) := ⟨by
        rw [hwc]
        exact ⟨HK.out.os.trans HK5.out.os, HK.out.tape.trans HK5.out.tape, HK.out.output.trans HK5.out.output, Nat.le_trans HK5.out.size HK.out.size, fun k hk h1 h2 h3 => (HK.out.block k (by have := HBa.out; have := HK5.out.size; omega) h3 (by have := HZW.out; omega)).trans (HK5.out.block k hk h1 h2 h3)⟩⟩
      have hbc : base ≤ wc.heap.size := by rw [hwc]; exact hbs
      have n7 : p ≠ g := by omega
      have n8 : b ≠ g := by omega
      have n9 : z ≠ p := by omega
      have n10 : z ≠ b := by omega
      have n11 : z + 1 ≠ p := by omega
      have n12 : z + 1 ≠ b := by omega
      rw [← hwc]
      clear hwc hus2 l2 epa HV HJ HK hbs HV5 HJ5
      have k5 := HSc.out.c5
      have kz : wc.cell? ⟨z, 0, none⟩ = some (.pointer (some ⟨p, 0, none⟩)) := HZc.out.cell 0
      go_wp2
      go_loopw [54] (fun cv wx => ∃ (j : Nat) (wsj : List Int), cv = .int .i64 j ∧ j ≤ u ∧ Hid (Lay ws wsj F (us2.take j)) ∧ Hid (Stk wx p a b wsj F N u rs.length u) ∧ Hid (Kp p b wc wx)) (fun cv _ => u - (intOf cv).toNat)
      case atStart => exact ⟨0, ws, rfl, Nat.zero_le _, ⟨Lay.nil _ _⟩, HSc, ⟨Kp.refl _ _ _⟩⟩
      case round =>
        obtain ⟨j, wsj, rfl, hj, HLj, HSj, HKj⟩ := hrel
        by_cases hlj : j < u
        · have kl : j < us2.length := by rw [HL2.out]; exact hlj
          have hlj' : (j : Int) < u := by omega
          have cg : wr.cell? ⟨g, j, none⟩ = some (.int .u64 (us2.getD j 0)) := by rw [Joins.cell_of_block ((HKj.out.block g HVc.out.lt n7.symm n8.symm).trans HVc.out), List.getElem?_toArray, row_get us2 j kl]
          have cz : wr.cell? ⟨z, 0, none⟩ = some (.pointer (some ⟨p, 0, none⟩)) := by rw [Joins.cell_of_block ((HKj.out.block z HZc.out.lt n9 n10).trans HZc.out)]; rfl
          have SA := set_any HSj.out j (us2.getD j 0) (by omega)
          have HL3 : Hid (Lay ws (wsj.set (F + j) (us2.getD j 0)) F (us2.take (j + 1))) := ⟨by
            have := HLj.out.snoc (us2.getD j 0) (by simp; omega)
            rw [List.length_take, Nat.min_eq_left (by omega)] at this
            rw [List.take_succ_eq_append_getElem kl]
            simpa [List.getD_eq_getElem?_getD, List.getElem?_eq_getElem kl] using this⟩
          generalize us2.getD j 0 = x at *
          go_wp2_with (go_at_call 43; refine SA.mono ?_; clear SA; rintro e w8 ⟨⟨xx, rfl⟩, S8, G8⟩)
          exact ⟨⟨j + 1, _, by go_num, by omega, HL3, ⟨S8⟩, ⟨HKj.out.trans (Kp.words G8)⟩⟩, by simp [intOf]; omega⟩
        · obtain rfl : j = u := by omega
          have ZZ : Bx wr z #[.pointer (some ⟨p, 0, none⟩)] 24 := (HKj.out.block z HZc.out.lt n9 n10).trans HZc.out
          have AA : Bx wr (z + 1) #[.int .i64 ((0 : Nat) : Int)] 3 := (HKj.out.block (z + 1) HAc.out.lt n11 n12).trans HAc.out
          have AI := after_idle (ar := 0) HSj.out ZZ AA n9 n11
          have JE : Hid (J base i wr) := ⟨hJs base i wc wr HJc.out HKj.out.size (HKj.out.block y (by have := HKc.out.size; omega) yp yb) (fun k hk hl => HKj.out.block k hl (by omega) (by omega))⟩
          go_wp2
          refine leaves_cons (f := 48) (args := #[.pointer (some ⟨z, 0, none⟩), .pointer (some ⟨z + 1, 0, none⟩)]) (by simp) (by simp [go_sem]) ?_
          refine AI.mono ?_
          rintro e u' w9 ⟨rfl, rfl, S9, G9⟩
          rw [Nat.min_zero] at S9
          refine ⟨_, results_none rfl _ _ _, ⟨_, rfl⟩, ⟨wsj, ⟨?_, refill_ok rs news (by rw [HNL2.out, HO.out]) Hh.out.ok hnv, fun k hk => ?_⟩, ?_⟩, ⟨base, by have := HBa.out; have := HK5.out.size; omega, by have := HKj.out.size; have := G9.size; omega, ?_⟩, (HKc.out.kp HKj.out).kp (Kp.box G9)⟩
          · rw [← HU2.out, HL2.out, refill_len]
            exact S9
          · have L := HLj.out
            rw [List.take_of_length_le (by rw [HL2.out]; exact Nat.le_refl _)] at L
            rw [← HU2.out] at hk ⊢
            exact L.inn k hk
          · have L := HLj.out
            rw [List.take_of_length_le (by rw [HL2.out]; exact Nat.le_refl _)] at L
            exact Bes.of L (Nat.le_refl _) (by rw [HL2.out]; omega)
          · rw [← HO.out, ← HMm.out.2]
            exact hJs base i wr w9 JE.out G9.size (G9.block y (by have := HKc.out.size; have := HKj.out.size; omega) (by simpa using yp)) (fun k hk hl => G9.block k hl (by simp <;> omega))
end Go.Proofs.YtglimbpnekephaaDoor
