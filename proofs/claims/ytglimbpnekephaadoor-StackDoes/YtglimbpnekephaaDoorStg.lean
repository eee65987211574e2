/- Package stack: a frame is read. -/
import Derived.Test.YtglimbpnekephaaDoorStf
namespace Go.Proofs.YtglimbpnekephaaDoor
open Go.RowKit
set_option linter.unusedVariables false
set_option linter.unusedSimpArgs false

theorem push_any {w : World} {p a b F N k : Nat} {ws : List Int} {rs : List Fr} (h : Ss w p a b ws F N k rs) (f : Fr) (o : Option Addr) (cap : Nat) (T : Table w) (P : PS w o cap f.ps) (h1 : 0 < f.ps.length → Off o p) (h2 : 0 < f.ps.length → Off o b) :
    Calls Tryd.prog 18 #[.pointer (some ⟨p, 0, none⟩), fv f o cap] w fun e w' => e = .returned (.int .i64 (pushE N (wd rs).length f)) ∧ (∃ ws', Ss w' p a b ws' F N k (if pushE N (wd rs).length f = 0 then f :: rs else rs) ∧ Bes F N ws ws') ∧ Kp p b w w' := by
  by_cases hr : rightE f = 0
  · by_cases hf : N < (wd rs).length + (f.ps.length + 1)
    · have e : pushE N (wd rs).length f = 5 := by simp [pushE, hr, hf]
      rw [e]
      refine (push_full h f o cap T P hr hf).mono ?_
      rintro e w' ⟨rfl, B⟩
      exact ⟨rfl, ⟨ws, h.later B, Bes.refl _ _ _⟩, Kp.of B⟩
    · have e : pushE N (wd rs).length f = 0 := by simp [pushE, hr, hf]
      rw [e]
      refine (push_go h f o cap T P h1 h2 hr (by omega)).mono ?_
      rintro e w' ⟨rfl, ⟨ws', S, B⟩, K⟩
      exact ⟨rfl, ⟨ws', S, B⟩, K⟩
  · have e : pushE N (wd rs).length f = rightE f := by simp [pushE, hr]
    rw [e, if_neg hr]
    refine (push_wrong f o cap T P hr).mono ?_
    rintro e w' ⟨rfl, B⟩
    exact ⟨rfl, ⟨ws, h.later B, Bes.refl _ _ _⟩, Kp.of B⟩

/-- a block's cells -/
def Bx (w : World) (m : Nat) (cs : Array Value) (t : TypeId) : Prop := w.heap[m]? = some (.cells cs t (0, 0))
theorem Bx.cell {w : World} {m : Nat} {cs : Array Value} {t : TypeId} (h : Bx w m cs t) (i : Nat) : w.cell? ⟨m, i, none⟩ = cs[i]? := Joins.cell_of_block h i
theorem Bx.z {w : World} {m : Nat} {cs : Array Value} {t : TypeId} (h : Bx w m cs t) (i : Nat) : w.frozen? ⟨m, i, none⟩ = false := Joins.unfrozen_of_block h i
theorem Bx.lt {w : World} {m : Nat} {cs : Array Value} {t : TypeId} (h : Bx w m cs t) : m < w.heap.size := (Array.getElem?_eq_some_iff.1 h).1
theorem store4 {W : World} {h : Nat} {v0 v1 v2 v3 : Value} (E : Bx W h #[v0, v1, v2, v3] 36) (u0 u1 u2 u3 : Value) :
    Bx ((((W.setCell ⟨h, 0, none⟩ u0).setCell ⟨h, 1, none⟩ u1).setCell ⟨h, 2, none⟩ u2).setCell ⟨h, 3, none⟩ u3) h #[u0, u1, u2, u3] 36 ∧ W.grownBy ((((W.setCell ⟨h, 0, none⟩ u0).setCell ⟨h, 1, none⟩ u1).setCell ⟨h, 2, none⟩ u2).setCell ⟨h, 3, none⟩ u3) (some h) :=
  ⟨Joins.block_setCell (i := 3) (Joins.block_setCell (i := 2) (Joins.block_setCell (i := 1) (Joins.block_setCell (i := 0) E u0) u1) u2) u3, grown_trans (grown_trans (grown_trans (grown_set _ _ _ _) (grown_set _ _ _ _)) (grown_set _ _ _ _)) (grown_set _ _ _ _)⟩
theorem below_store4 {w W W' : World} (B : Below w.heap.size w W) (G : W.grownBy W' (some w.heap.size)) : Below w.heap.size w W' :=
  ⟨G.os.trans B.os, G.tape.trans B.tape, G.output.trans B.output, Nat.le_trans B.size G.size, fun k hk => (G.block k (Nat.lt_of_lt_of_le hk B.size) (by simp; omega)).trans (B.block k hk)⟩
theorem below_set {w W : World} {m i : Nat} {v : Value} (B : Below w.heap.size w W) (h : w.heap.size ≤ m) : Below w.heap.size w (W.setCell ⟨m, i, none⟩ v) := B.setCell (p := ⟨m, i, none⟩) h v
theorem size36 : (Tryd.prog.info? 36).map (·.size) = some 4 := by kernel_rfl
def rowI (xs : List Int) : List Value := xs.map (Value.int .i64)
theorem rowI_get (xs : List Int) (i : Nat) (h : i < xs.length) : (rowI xs)[i]? = some (.int .i64 (xs.getD i 0)) := by simp [rowI, h]
theorem rowI_set (xs : List Int) (i : Nat) (v : Int) : rowI (xs.set i v) = (rowI xs).set i (.int .i64 v) := by simp [rowI, List.map_set]
theorem made_ints (n : Nat) : madeCells #[.int .i64 0] n = (rowI (List.replicate n 0)).toArray := by
  apply Array.ext
  · simp [madeCells, rowI]
  · intro i h1 h2
    simp [madeCells, rowI, Nat.mod_one]
theorem info3 : (Tryd.prog.info? 3).map (fun i => (i.zero, i.size, i.bytes)) = some (some (.int .i64 0), 1, 8) := by kernel_rfl
theorem last_bits {f : Fr} (h : Okf f) : (0 ≤ last f ∧ last f ≤ 18446744073709551615) ∧ bits .and .u64 (last f) 15 = f.k ∧ last f / 16777216 = f.a ∧ bits .and .u64 (last f / 16) 15 = f.b := by
  have h1 := h.k
  have h2 := h.a
  have h3 := h.b
  have h4 := h.n
  have hl : 0 ≤ last f ∧ last f ≤ 18446744073709551615 := by unfold last; omega
  refine ⟨hl, ?_, by unfold last; omega, ?_⟩
  · rw [u64_and _ _ (by omega) (by omega) (by omega) (by omega), show (15 : Int).toNat = 15 from rfl, nat_mask4]
    unfold last at *
    omega
  · rw [u64_and _ _ (by omega) (by omega) (by omega) (by omega), show (15 : Int).toNat = 15 from rfl, nat_mask4]
    unfold last at *
    omega

set_option maxRecDepth 100000 in
set_option maxHeartbeats 4000000 in
theorem read0_A {w : World} {p a b F : Nat} {ws us : List Int} (R : RdA w p a b F ws us) (x : Nat) (f : Fr) (hok : Okf f) (h1 : ∀ i, i < f.ps.length → us.getD (x + i) 0 = f.ps.getD i 0) (h2 : us.getD (x + f.ps.length) 0 = last f) (h3 : x + f.ps.length < us.length) (hn0 : f.ps.length = 0) :
    Calls Tryd.prog 47 #[.func (.func 45) #[.pointer (some ⟨p, 0, none⟩)] #[], .int .i64 x, .int .i64 f.ps.length] w fun e w' => ∃ o cp, e = .returned (fv f o cp) ∧ PS w' o cp f.ps ∧ (∀ ad, o = some ad → w.heap.size ≤ ad.block) ∧ Below w.heap.size w w' := by
  have WA : ∀ W, Below w.heap.size w W → ∀ i, i < us.length → Calls Tryd.prog 45 #[.pointer (some ⟨p, 0, none⟩), .int .i64 i] W fun e w' => e = .returned (.int .u64 (us.getD i 0)) ∧ Below W.heap.size W w' := fun W B i hi => word_any (R.later B) i hi
  have ul : us.length ≤ 524288 := by have := R.fit; have := R.ar.len; omega
  have k1 := hok.k
  have k2 := hok.a
  have k3 := hok.b
  have k4 := hok.n
  obtain ⟨m1, m2, m3, m4⟩ := last_bits hok
  have LX := WA (w.alloc (Obj.cells #[.int .i64 0, .int .i64 0, .int .i64 0, .slice none 0 0] 36)) (by go_grown) (x + f.ps.length) h3
  rw [h2] at LX
  obtain ⟨fk, hfk⟩ : ∃ y, y = f.k := ⟨_, rfl⟩
  obtain ⟨fa, hfa⟩ : ∃ y, y = f.a := ⟨_, rfl⟩
  obtain ⟨fb, hfb⟩ : ∃ y, y = f.b := ⟨_, rfl⟩
  obtain ⟨lw, hlw⟩ : ∃ y, y = last f := ⟨_, rfl⟩
  obtain ⟨n, hn⟩ : ∃ y, f.ps.length = y := ⟨_, rfl⟩
  simp only [← hfk, ← hfa, ← hfb, ← hlw, hn] at k1 k2 k3 k4 m1 m2 m3 m4 LX h1 h3 ⊢
  have HN := Hid.mk hn
  have Hf : Hid (fk = f.k ∧ fa = f.a ∧ fb = f.b) := ⟨hfk, hfa, hfb⟩
  have hsum : (((x + n : Nat)) : Int) = (x : Int) + n := by omega
  rw [hsum] at LX
  have HW := Hid.mk WA
  have H1 := Hid.mk h1
  clear hfk hfa hfb hlw h2 h1 R WA hsum
  rw [hn] at hn0
  subst hn0
  rw [show (x : Int) + (0 : Nat) = x by omega] at LX
  clear hn
  go_enter Tryd.func47, Tryd.ntmps47
  go_wp2_with (go_at_call 45; refine LX.mono ?_; rintro e w1 ⟨rfl, B1⟩)
  go_loopw [34] (fun cv wr => cv = .int .i64 0 ∧ wr = w1.alloc (Obj.cells #[.int .i64 fk, .int .i64 fa, .int .i64 fb, .slice none 0 0] 36)) (fun _ _ => 0)
  case atStart => exact ⟨rfl, rfl⟩
  case round =>
    obtain ⟨rfl, rfl⟩ := hrel
    have hs : w.heap.size < w1.heap.size := by have := B1.size; simp at this; omega
    have Y : Bx w1 w.heap.size #[.int .i64 0, .int .i64 0, .int .i64 0, .slice none 0 0] 36 := (B1.block w.heap.size (by simp)).trans (heap_alloc_new _ _)
    have Y1 : Bx (w1.alloc (Obj.cells #[.int .i64 fk, .int .i64 fa, .int .i64 fb, .slice none 0 0] 36)) w.heap.size #[.int .i64 0, .int .i64 0, .int .i64 0, .slice none 0 0] 36 := (Below.heap_alloc _ _ _ hs).trans Y
    have Z1 : Bx (w1.alloc (Obj.cells #[.int .i64 fk, .int .i64 fa, .int .i64 fb, .slice none 0 0] 36)) w1.heap.size #[.int .i64 fk, .int .i64 fa, .int .i64 fb, .slice none 0 0] 36 := heap_alloc_new _ _
    have HB : Hid (Below w.heap.size w (w1.alloc (Obj.cells #[.int .i64 fk, .int .i64 fa, .int .i64 fb, .slice none 0 0] 36))) := ⟨belowOn (belowOn (by go_grown) B1) (by go_grown)⟩
    have Q := store4 Y1 (.int .i64 fk) (.int .i64 fa) (.int .i64 fb) (.slice none 0 0)
    have c0 := Y1.cell 0
    have c1 := Y1.cell 1
    have c2 := Y1.cell 2
    have c3 := Y1.cell 3
    have z0 := Y1.z
    have d0 := Z1.cell 0
    have d1 := Z1.cell 1
    have d2 := Z1.cell 2
    have d3 := Z1.cell 3
    have HQ := Hid.mk Q
    clear Q Y Y1 Z1 hs
    generalize w1.alloc (Obj.cells #[.int .i64 fk, .int .i64 fa, .int .i64 fb, .slice none 0 0] 36) = W at *
    go_wp2
    obtain ⟨q1, q2⟩ := HQ.out
    refine bodyPost_ret (results_cell_row Tryd.results47 _ _ w.heap.size 36 _ (0, 0) _ rfl q1 Tryd.underlying36 rfl size36) rfl ⟨none, 0, ?_, ?_, fun ad h => (by cases h), ?_⟩
    · simp only [fv, Hf.out.1, Hf.out.2.1, Hf.out.2.2, HN.out]
    · exact ⟨by rw [HN.out]; exact Nat.zero_le _, by rw [HN.out]; exact Nat.zero_le _, fun h => by rw [HN.out] at h; cases h⟩
    · exact below_store4 HB.out q2

set_option maxRecDepth 100000 in
set_option maxHeartbeats 4000000 in
theorem read1_A {w : World} {p a b F : Nat} {ws us : List Int} (R : RdA w p a b F ws us) (x : Nat) (f : Fr) (hok : Okf f) (h1 : ∀ i, i < f.ps.length → us.getD (x + i) 0 = f.ps.getD i 0) (h2 : us.getD (x + f.ps.length) 0 = last f) (h3 : x + f.ps.length < us.length) (hn0 : 0 < f.ps.length) :
    Calls Tryd.prog 47 #[.func (.func 45) #[.pointer (some ⟨p, 0, none⟩)] #[], .int .i64 x, .int .i64 f.ps.length] w fun e w' => ∃ o cp, e = .returned (fv f o cp) ∧ PS w' o cp f.ps ∧ (∀ ad, o = some ad → w.heap.size ≤ ad.block) ∧ Below w.heap.size w w' := by
  have hPs := hok.p
  have WA : ∀ W, Below w.heap.size w W → ∀ i, i < us.length → Calls Tryd.prog 45 #[.pointer (some ⟨p, 0, none⟩), .int .i64 i] W fun e w' => e = .returned (.int .u64 (us.getD i 0)) ∧ Below W.heap.size W w' := fun W B i hi => word_any (R.later B) i hi
  have ul : us.length ≤ 524288 := by have := R.fit; have := R.ar.len; omega
  have k1 := hok.k
  have k2 := hok.a
  have k3 := hok.b
  have k4 := hok.n
  obtain ⟨m1, m2, m3, m4⟩ := last_bits hok
  have LX := WA (w.alloc (Obj.cells #[.int .i64 0, .int .i64 0, .int .i64 0, .slice none 0 0] 36)) (by go_grown) (x + f.ps.length) h3
  rw [h2] at LX
  obtain ⟨fk, hfk⟩ : ∃ y, y = f.k := ⟨_, rfl⟩
  obtain ⟨fa, hfa⟩ : ∃ y, y = f.a := ⟨_, rfl⟩
  obtain ⟨fb, hfb⟩ : ∃ y, y = f.b := ⟨_, rfl⟩
  obtain ⟨lw, hlw⟩ : ∃ y, y = last f := ⟨_, rfl⟩
  obtain ⟨n, hn⟩ : ∃ y, f.ps.length = y := ⟨_, rfl⟩
  simp only [← hfk, ← hfa, ← hfb, ← hlw, hn] at k1 k2 k3 k4 m1 m2 m3 m4 LX h1 h3 ⊢
  have HN := Hid.mk hn
  have Hf : Hid (fk = f.k ∧ fa = f.a ∧ fb = f.b) := ⟨hfk, hfa, hfb⟩
  have hsum : (((x + n : Nat)) : Int) = (x : Int) + n := by omega
  rw [hsum] at LX
  have HW := Hid.mk WA
  have H1 := Hid.mk h1
  clear hfk hfa hfb hlw h2 h1 R WA hsum
  rw [hn] at hn0
  have hmk := Go.run_make_row' (P := Tryd.prog) 34 3 (.int .i64 0) 8 Tryd.underlying34 info3 rfl .i64 .i64 n (by omega) (by omega)
  rw [made_ints] at hmk
  clear hn
  go_enter Tryd.func47, Tryd.ntmps47
  go_wp2_with (go_at_call 45; refine LX.mono ?_; rintro e w1 ⟨rfl, B1⟩)
  have hs : w.heap.size < w1.heap.size := by have := B1.size; simp at this; omega
  have Y : Bx w1 w.heap.size #[.int .i64 0, .int .i64 0, .int .i64 0, .slice none 0 0] 36 := (B1.block w.heap.size (by simp)).trans (heap_alloc_new _ _)
  have Y1 : Hid (Bx ((w1.alloc (Obj.cells #[.int .i64 fk, .int .i64 fa, .int .i64 fb, .slice (some ⟨w1.heap.size + 1, 0, none⟩) n n] 36)).alloc (Obj.cells (rowI (List.replicate n 0)).toArray 3)) w.heap.size #[.int .i64 0, .int .i64 0, .int .i64 0, .slice none 0 0] 36) := ⟨(Below.heap_alloc _ _ _ (by simp; omega)).trans ((Below.heap_alloc _ _ _ hs).trans Y)⟩
  have Z1 : Hid (Bx ((w1.alloc (Obj.cells #[.int .i64 fk, .int .i64 fa, .int .i64 fb, .slice (some ⟨w1.heap.size + 1, 0, none⟩) n n] 36)).alloc (Obj.cells (rowI (List.replicate n 0)).toArray 3)) w1.heap.size #[.int .i64 fk, .int .i64 fa, .int .i64 fb, .slice (some ⟨w1.heap.size + 1, 0, none⟩) n n] 36) := ⟨(Below.heap_alloc _ _ _ (by simp)).trans (heap_alloc_new _ _)⟩
  have V1 : Hid (Bx ((w1.alloc (Obj.cells #[.int .i64 fk, .int .i64 fa, .int .i64 fb, .slice (some ⟨w1.heap.size + 1, 0, none⟩) n n] 36)).alloc (Obj.cells (rowI (List.replicate n 0)).toArray 3)) (w1.heap.size + 1) (rowI (List.replicate n 0)).toArray 3) := ⟨by have := heap_alloc_new (w1.alloc (Obj.cells #[.int .i64 fk, .int .i64 fa, .int .i64 fb, .slice (some ⟨w1.heap.size + 1, 0, none⟩) n n] 36)) (Obj.cells (rowI (List.replicate n 0)).toArray 3); simpa [Bx] using this⟩
  have HB : Hid (Below w.heap.size w ((w1.alloc (Obj.cells #[.int .i64 fk, .int .i64 fa, .int .i64 fb, .slice (some ⟨w1.heap.size + 1, 0, none⟩) n n] 36)).alloc (Obj.cells (rowI (List.replicate n 0)).toArray 3))) := ⟨belowOn (belowOn (by go_grown) B1) (by go_grown)⟩
  obtain ⟨r, hr⟩ : ∃ r, r = w.heap.size := ⟨_, rfl⟩
  obtain ⟨q, hq⟩ : ∃ q, q = w1.heap.size := ⟨_, rfl⟩
  obtain ⟨g, hg⟩ : ∃ g, g = q + 1 := ⟨_, rfl⟩
  simp only [← hq, ← hg, ← hr] at Y1 Z1 V1 hs ⊢
  have hg1 : ¬ q = g := by omega
  have hg2 : ¬ g = q := by omega
  have hg3 : ¬ r = g := by omega
  have hg4 : ¬ g = r := by omega
  have HR : Hid (r = w.heap.size ∧ r < g) := ⟨hr, by omega⟩
  simp only [← hq, ← hg] at HB
  clear Y hq hg hr hmk
  generalize (w1.alloc (Obj.cells #[.int .i64 fk, .int .i64 fa, .int .i64 fb, .slice (some ⟨g, 0, none⟩) n n] 36)).alloc (Obj.cells (rowI (List.replicate n 0)).toArray 3) = W0 at *
  clear B1 LX
  go_loopw [34] (fun cv wr => ∃ (i : Nat) (cs : List Int), cv = .int .i64 i ∧ i ≤ n ∧ Hid (Lay (List.replicate n 0) cs 0 (f.ps.take i)) ∧ Hid (Bx wr r #[.int .i64 0, .int .i64 0, .int .i64 0, .slice none 0 0] 36) ∧ Hid (Bx wr q #[.int .i64 fk, .int .i64 fa, .int .i64 fb, .slice (some ⟨g, 0, none⟩) n n] 36) ∧ Hid (Bx wr g (rowI cs).toArray 3) ∧ Hid (Below w.heap.size w wr)) (fun cv _ => n - (intOf cv).toNat)
  case atStart => exact ⟨0, _, rfl, Nat.zero_le _, ⟨Lay.nil _ _⟩, Y1, Z1, V1, HB⟩
  case round =>
    obtain ⟨i, cs, rfl, hi, HL, HY, HZ, HV, HBr⟩ := hrel
    have cl : cs.length = n := by rw [HL.out.len]; simp
    by_cases hlt : i < n
    · have kl : i < f.ps.length := by rw [HN.out]; exact hlt
      have hx := hPs _ (List.getElem_mem kl)
      have WI := HW.out wr.drew (belowOn HBr.out (below_drew wr)) (x + i) (by omega)
      rw [H1.out i hlt, show f.ps.getD i 0 = f.ps[i]'kl by simp [List.getD_eq_getElem?_getD, List.getElem?_eq_getElem kl]] at WI
      have HL2 : Hid (Lay (List.replicate n 0) (cs.set i (f.ps[i]'kl)) 0 (f.ps.take (i + 1))) := ⟨by
        have := HL.out.snoc (f.ps[i]'kl) (by simp; omega)
        rw [List.length_take, Nat.min_eq_left (by omega), Nat.zero_add] at this
        rw [List.take_succ_eq_append_getElem kl]
        exact this⟩
      generalize f.ps[i]'kl = y at *
      have hlt' : (i : Int) < n := by omega
      have kw : IntKind.i64.wrap ((x : Int) + i) = ((x + i : Nat) : Int) := by rw [wrapI (by omega) (by omega)]; omega
      obtain ⟨xi, hxi⟩ : ∃ v, x + i = v := ⟨_, rfl⟩
      rw [hxi] at kw WI
      have HXI := Hid.mk hxi
      clear hxi
      have d3 : wr.cell? ⟨q, 3, none⟩ = some (.slice (some ⟨g, 0, none⟩) n n) := HZ.out.cell 3
      go_wp2
      go_region_held3 (fun w' => w'.cell? ⟨q, 3, none⟩ = some (.slice (some ⟨g, 0, none⟩) n n)) (go_keep) (first
        | (go_at_call 45; refine WI.mono ?_; rintro e w4 ⟨rfl, B4⟩; have B5 := belowOn (below_drew wr) B4; have V4 : Bx w4 g (rowI cs).toArray 3 := (B5.block g HV.out.lt).trans HV.out; have Z4 : Bx w4 q #[.int .i64 fk, .int .i64 fa, .int .i64 fb, .slice (some ⟨g, 0, none⟩) n n] 36 := (B5.block q HZ.out.lt).trans HZ.out; have e3 : w4.cell? ⟨q, 3, none⟩ = some (.slice (some ⟨g, 0, none⟩) n n) := Z4.cell 3; have vz := V4.z i; have vc : w4.cell? ⟨g, i, none⟩ = some (.int .i64 (cs.getD i 0)) := (by rw [V4.cell i, List.getElem?_toArray, rowI_get cs i (by omega)])))
      all_goals go_wp2
      all_goals go_roundw
      all_goals first
        | exact ⟨i + 1, cs.set i y, by go_num, by omega, HL2, ⟨(Below.heap_setCell _ _ _ _ hg3).trans ((B5.block r HY.out.lt).trans HY.out)⟩, ⟨(Below.heap_setCell _ _ _ _ hg1).trans Z4⟩, ⟨by have := Joins.block_setCell (i := i) V4 (.int .i64 y); rw [rowI_set]; simpa [Bx] using this⟩, ⟨below_set (belowOn HBr.out B5) (by have := HR.out; omega)⟩⟩
        | (simp [intOf]; omega)
    · obtain rfl : i = n := by omega
      obtain ⟨q1, q2⟩ := store4 HY.out (.int .i64 fk) (.int .i64 fa) (.int .i64 fb) (.slice (some ⟨g, 0, none⟩) i i)
      have HQ := Hid.mk q1
      have HG := Hid.mk q2
      have c0 := HY.out.cell 0
      have c1 := HY.out.cell 1
      have c2 := HY.out.cell 2
      have c3 := HY.out.cell 3
      have z0 := HY.out.z
      have d0 := HZ.out.cell 0
      have d1 := HZ.out.cell 1
      have d2 := HZ.out.cell 2
      have d3 := HZ.out.cell 3
      clear q1 q2
      go_wp2
      refine bodyPost_ret (results_cell_row Tryd.results47 _ _ r 36 _ (0, 0) _ rfl HQ.out Tryd.underlying36 rfl size36) rfl ⟨some ⟨g, 0, none⟩, i, ?_, ?_, fun ad h => (by cases h; have := HR.out; simp only; omega), ?_⟩
      · simp only [fv, Hf.out.1, Hf.out.2.1, Hf.out.2.2, HN.out]
      · refine ⟨by rw [HN.out]; exact Nat.le_refl _, by rw [HN.out]; unfold maxLen; omega, fun _ => ⟨g, 0, rfl, fun j hj => ?_⟩⟩
        have L := HL.out
        rw [List.take_of_length_le (by rw [HN.out]; omega)] at L
        have := L.inn j hj
        have W8 := (HG.out.block g HV.out.lt (by simpa using hg4)).trans HV.out
        rw [Nat.zero_add] at this ⊢
        rw [Joins.cell_of_block W8, List.getElem?_toArray, rowI_get cs j (by rw [cl, ← HN.out]; exact hj), this]
        simp [List.getD_eq_getElem?_getD, List.getElem?_eq_getElem hj]
      · have := HG.out
        rw [HR.out.1] at this ⊢
        exact below_store4 HBr.out this
end Go.Proofs.YtglimbpnekephaaDoor
