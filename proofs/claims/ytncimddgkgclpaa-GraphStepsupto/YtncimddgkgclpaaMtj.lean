/- meetAll. -/
import Derived.Test.YtncimddgkgclpaaMti
namespace Go.Proofs.Ytncimddgkgclpaa
open Go.RowKit
set_option linter.unusedVariables false
set_option linter.unusedSimpArgs false
set_option maxRecDepth 100000

/-- nodes of which the first i were turned -/
def mix (V : List Nat) (D D' : Nat → Nd) (i : Nat) : List Nd := V.mapIdx fun j n => if j < i then D' n else D n
theorem mix_len (V : List Nat) (D D' : Nat → Nd) (i : Nat) : (mix V D D' i).length = V.length := by simp [mix]
theorem mix_get (V : List Nat) (D D' : Nat → Nd) (i j : Nat) (h : j < (mix V D D' i).length) : (mix V D D' i)[j] = if j < i then D' (V[j]'(by simpa [mix] using h)) else D (V[j]'(by simpa [mix] using h)) := by simp [mix]
theorem mix_zero (V : List Nat) (D D' : Nat → Nd) : mix V D D' 0 = V.map D := by
  refine List.ext_getElem (by simp [mix]) fun j h1 h2 => ?_
  rw [mix_get]; simp
theorem mix_all (V : List Nat) (D D' : Nat → Nd) : mix V D D' V.length = V.map D' := by
  refine List.ext_getElem (by simp [mix]) fun j h1 h2 => ?_
  have : j < V.length := by simpa using h2
  rw [mix_get, if_pos this]; simp
theorem mix_set (V : List Nat) (D D' : Nat → Nd) (i : Nat) (h : i < V.length) : (mix V D D' i).set i (D' V[i]) = mix V D D' (i + 1) := by
  refine List.ext_getElem (by simp [mix]) fun j h1 h2 => ?_
  rw [List.getElem_set, mix_get, mix_get]
  by_cases e : i = j
  · subst e; simp
  · rw [if_neg e]
    by_cases q : j < i
    · rw [if_pos q, if_pos (by omega)]
    · rw [if_neg q, if_neg (by omega)]
/-- a node with its kids' numbers -/
def numD (V : List Nat) (x : Nd) : Nd := ⟨x.k, x.i, x.ns, x.ks.map (numI V)⟩
section
variable {base lo mb mm m gb ab : Nat} {X : Nat → Prop} {J : World → Prop} {w w' : World} {D : Nat → Nd}
theorem own4 {w : World} {base e n g cap : Nat} {xs : List Value} (h : w.ownsRow base e 4 (.slice (some ⟨g, 0, none⟩) n cap) n xs) : base ≤ g ∧ g < w.heap.size ∧ n ≤ cap ∧ cap ≤ Go.maxLen ∧ (∃ cur, w.heap[g]? = some (.cells cur e (0, 0))) ∧ (∀ j, j < n * 4 → w.cell? ⟨g, j, none⟩ = xs[j]? ∧ w.frozen? ⟨g, j, none⟩ = false) ∧
    ∀ i v, i < n * 4 → (w.setCell ⟨g, i, none⟩ v).ownsRow base e 4 (.slice (some ⟨g, 0, none⟩) n cap) n (xs.set i v) := by
  obtain ⟨hl, ⟨q, _⟩ | ⟨g', cap', cur, q, h1, h2, h3, h4, h5, h6⟩⟩ := h
  · cases q
  · have q1 : g' = g ∧ cap' = cap := by simp at q; exact ⟨q.1.symm, q.2.symm⟩
    obtain ⟨rfl, rfl⟩ := q1
    refine ⟨h1, (Array.getElem?_eq_some_iff.1 h2).1, h3, h4, ⟨cur, h2⟩, fun j hj => ⟨?_, Joins.unfrozen_of_block h2 _⟩, fun i v hi => ⟨by simp [hl], .inr ⟨g', cap', _, rfl, h1, Joins.block_setCell h2 _, h3, h4, by simp [h5], ?_⟩⟩⟩
    · rw [Joins.cell_of_block h2, ← h6, List.getElem?_take_of_lt hj]
      simp
    · rw [Array.toList_setIfInBounds, List.take_set, h6]
theorem own4_form {w : World} {base e n : Nat} {v : Value} {xs : List Value} (h : w.ownsRow base e 4 v n xs) (hn : 0 < n) : ∃ g cap, v = .slice (some ⟨g, 0, none⟩) n cap := by
  obtain ⟨hl, ⟨_, q⟩ | ⟨g, cap, cur, q, _⟩⟩ := h
  · omega
  · exact ⟨g, cap, q⟩
/-- the round of the nodes -/
structure Rnd (base lo : Nat) (X : Nat → Prop) (w0 w : World) (mb mm gb ab r : Nat) (nv : Value) (V : List Nat) (N : List Nd) (o0 : Option Addr) (c0 : Nat) (l0 : List Int) : Prop where
  row : ∃ cs, w.ownsRow lo 34 4 nv V.length cs ∧ NL lo X w N cs
  mq : Mq base lo X w mb mm (lkv gb ab) nv V
  box : w.heap[r]? = some (.cells #[.slice none 0 0, .slice none 0 0] 25 (0, 0))
  bel : Ky base X [67, 34, 22, 71] w0 w
  pl : Fs lo X w .i64 3 o0 c0 l0
set_option maxHeartbeats 16000000 in
theorem meetAll37 (L : Lk base lo X J D m gb ab) (hJ : J w) (hw : lo ≤ w.heap.size) (hX : ∀ k, X k → k < lo) (hm : m ≤ 1000) (l0 : List Int) (o0 : Option Addr) (c0 : Nat) (P : Fs lo X w .i64 3 o0 c0 l0) (hp : Plc m l0) (hl : l0.length ≤ 1000000)
    (hD : ∀ n, Plc m (D n).ks) (hDl : ∀ n, (D n).ks.length ≤ 1000000) (V : List Nat) (hV : vis (fun n => (D n).ks) (m + 1) l0 [] = V) (hVl : V.length ≤ 1000) :
    Calls Try.prog 37 #[.slice o0 l0.length c0, .int .i64 (-1), lkv gb ab] w fun e w' => ∃ o1 c1 nv, e = .returned (.tuple #[.agg #[.slice o1 l0.length c1, nv], .int .i64 0]) ∧ Fs lo X w' .i64 3 o1 c1 (l0.map (numI V)) ∧ (∃ cs, w'.ownsRow lo 34 4 nv V.length cs ∧ NL lo X w' (V.map fun n => numD V (D n)) cs) ∧ Ky base X [67, 34, 22, 71] w w' := by
  have bl := L.lo
  have bw : base ≤ w.heap.size := Nat.le_trans bl hw
  obtain ⟨W1, hW1⟩ : ∃ W1, W1 = ((w.alloc (.cells #[.slice none 0 0, .slice none 0 0] 25)).alloc (.map #[] 0)).alloc (.cells #[lkv gb ab, .int .i64 (-1), .map (some (w.heap.size + 1)), .slice none 0 0] 71) := ⟨_, rfl⟩
  have B1 : Below w.heap.size w W1 := by rw [hW1]; go_grown
  have s1 : W1.heap.size = w.heap.size + 3 := by rw [hW1]; simp
  have y1 : W1.heap[w.heap.size]? = some (.cells #[.slice none 0 0, .slice none 0 0] 25 (0, 0)) := by
    rw [hW1]
    exact (Below.heap_alloc _ _ _ (by simp; omega)).trans ((Below.heap_alloc _ _ _ (by simp)).trans (heap_alloc_new _ _))
  have y2 : W1.heap[w.heap.size + 2]? = some (.cells #[lkv gb ab, .int .i64 (-1), .map (some (w.heap.size + 1)), .slice none 0 0] 71 (0, 0)) := by
    rw [hW1]
    have := heap_alloc_new ((w.alloc (.cells #[.slice none 0 0, .slice none 0 0] 25)).alloc (.map #[] 0)) (.cells #[lkv gb ab, .int .i64 (-1), .map (some (w.heap.size + 1)), .slice none 0 0] 71)
    simpa using this
  have y3 : VM 3 W1 (w.heap.size + 1) 0 (fun _ => none) := by
    have := VM.made 3 (w.alloc (.cells #[.slice none 0 0, .slice none 0 0] 25))
    have e : (w.alloc (.cells #[.slice none 0 0, .slice none 0 0] 25)).heap.size = w.heap.size + 1 := by simp
    rw [e] at this
    refine this.of_block ?_
    rw [hW1]
    exact Below.heap_alloc _ _ _ (by simp)
  have hM1 : Mt base lo X W1 (w.heap.size + 2) (w.heap.size + 1) (lkv gb ab) (.slice none 0 0) D [] :=
    ⟨y2, ⟨0, _, Nat.le_refl _, y3, fun x hx => by unfold mfI; split <;> rfl⟩, ⟨[], World.ownsRow_nil _ _ _ _, rfl⟩, ⟨bl, by omega, by omega, hX⟩⟩
  have CW := walk44 L (L.keep _ _ hJ (Ky.later bw B1)) hM1 (Nat.le_trans hw B1.size) hm l0 o0 c0 (P.later B1) hp hl hD hDl
  rw [hV] at CW
  obtain ⟨n0, hn0⟩ : ∃ n, l0.length = n := ⟨_, rfl⟩
  have HN0 := Hid.mk hn0
  rw [hn0] at CW ⊢
  have HCW := Hid.mk CW
  have HB1 := Hid.mk B1
  have Hy1 := Hid.mk y1
  have HP := Hid.mk (P.later B1)
  have HXX := Hid.mk hX
  have HLT := Hid.mk hl
  have hpl := Hid.mk hp
  have HD := Hid.mk hD
  have HDl := Hid.mk hDl
  subst hW1
  clear L hJ hX P hp hl hD hDl hV B1 s1 y1 y2 y3 hM1 CW hn0
  have hmm := @run_makeMap Try.prog
  go_enter Try.func37, Try.ntmps37
  go_wp2_with (go_at_call 44; refine HCW.out.mono ?_; clear HCW; rintro e w2 ⟨rfl, ⟨nv, M2⟩, J2, K2⟩; obtain ⟨ga, pc, rfl⟩ := M2.form; have d3 := M2.c0.2.2.2; have HM2 := Hid.mk M2; have HK2 := Hid.mk K2; clear M2 J2 K2)
  obtain ⟨k, hk⟩ : ∃ k, V.length = k := ⟨_, rfl⟩
  have HK := Hid.mk hk
  rw [hk] at d3 hVl ⊢
  have hR : Hid (Rnd base lo X w w2 (w.heap.size + 2) (w.heap.size + 1) gb ab w.heap.size (.slice ga k pc) V (mix V D (fun n => numD V (D n)) 0) o0 c0 l0) := ⟨by
    obtain ⟨cs, r1, r2⟩ := HM2.out.row
    have hb := HM2.out.mq
    rw [hk] at r1 hb
    exact ⟨⟨cs, by rw [hk]; exact r1, by rw [mix_zero]; exact r2.nl⟩, hb, HK2.out.keep _ _ _ _ Hy1.out (by simp) (fun q => by have := HXX.out _ q; omega), (Ky.later bw HB1.out).trans HK2.out, HP.out.ky HK2.out (by simp)⟩⟩
  clear HK2 Hy1 HP HB1 HM2 hk
  go_loopw [29] (fun cv wr => ∃ i : Nat, cv = .int .i64 i ∧ i ≤ k ∧ Hid (Rnd base lo X w wr (w.heap.size + 2) (w.heap.size + 1) gb ab w.heap.size (.slice ga k pc) V (mix V D (fun n => numD V (D n)) i) o0 c0 l0)) (fun cv _ => k - (intOf cv).toNat)
  case atStart => exact ⟨0, rfl, Nat.zero_le _, hR⟩
  case round =>
    clear hR d3
    obtain ⟨i, rfl, hi, HR⟩ := hrel
    obtain ⟨cs, r1, nl⟩ := HR.out.row
    obtain ⟨e0, e1, e2, e3⟩ := HR.out.mq.c0
    rw [HK.out] at r1
    have bwr : Hid (base ≤ wr.heap.size ∧ lo ≤ wr.heap.size ∧ w.heap.size + 2 < wr.heap.size) := ⟨by
      have h1 := (Array.getElem?_eq_some_iff.1 HR.out.mq.box).1
      omega⟩
    by_cases hlt : i < k
    case neg =>
      obtain rfl : i = k := by omega
      have CR := fun (W : World) (B : Below wr.heap.size wr W) => numbered45q (HR.out.mq.later bwr.out.1 B) (Nat.le_trans bwr.out.1 B.size) (Nat.le_trans bwr.out.2.1 B.size) l0 o0 c0 (HR.out.pl.later B).ps (fun x hx => isI_plc hm (hpl.out x hx)) HLT.out
      have HCR := Hid.mk CR
      have Hr := Hid.mk (And.intro r1 nl)
      have HX : Hid (Below wr.heap.size wr wr.drew) := ⟨(Below.refl _ _).drew⟩
      have hmb := Hid.mk HR.out.mq.box
      have hbx := Hid.mk HR.out.box
      have nmr : ¬ (w.heap.size + 2 = w.heap.size) := by omega
      have e3' := e3
      rw [HN0.out] at HCR
      clear CR r1 nl e0 e1 e2
      go_wp2
      go_region_held3 (fun W' => W'.cell? ⟨w.heap.size + 2, 3, none⟩ = some (.slice ga i pc)) (go_keep) (first | (go_at_call 45; refine (HCR.out _ HX.out).mono ?_; rintro e w5 ⟨⟨g5, rfl, F5, _⟩, B5⟩; have HF5 := Hid.mk F5; replace HX := Hid.mk (belowOn HX.out B5); have q3 := cellLater HX.out e3'; have hb5 := (HX.out.block _ (Array.getElem?_eq_some_iff.1 hbx.out).1).trans hbx.out; have q0 : w5.cell? ⟨w.heap.size, 0, none⟩ = some (.slice none 0 0) := (by rw [Joins.cell_of_block hb5]; rfl); have q1 : w5.cell? ⟨w.heap.size, 1, none⟩ = some (.slice none 0 0) := (by rw [Joins.cell_of_block hb5]; rfl); have z0 : w5.frozen? ⟨w.heap.size, 0, none⟩ = false := Joins.unfrozen_of_block hb5 0; have z1 : w5.frozen? ⟨w.heap.size, 1, none⟩ = false := Joins.unfrozen_of_block hb5 1; have Hb5 := Hid.mk hb5; clear F5 B5 hb5))
      go_wp2
      have bw5 : base ≤ w5.heap.size := Nat.le_trans bwr.out.1 HX.out.size
      have f1 := Joins.block_setCell Hb5.out (i := 0) (.slice (some ⟨g5, 0, none⟩) n0 n0)
      have f2 := Joins.block_setCell f1 (i := 1) (.slice ga i pc)
      have KS : Kt base 25 w5 ((w5.setCell ⟨w.heap.size, 0, none⟩ (.slice (some ⟨g5, 0, none⟩) n0 n0)).setCell ⟨w.heap.size, 1, none⟩ (.slice ga i pc)) := (Kt.set Hb5.out bw).trans (Kt.set f1 bw)
      refine bodyPost_ret (results_cell_row2 Try.results37 _ _ w.heap.size 25 _ (0, 0) _ rfl f2 Try.underlying25 rfl size25) rfl ⟨some ⟨g5, 0, none⟩, n0, .slice ga i pc, rfl, ?_, ⟨cs, ?_, ?_⟩, ⟨(HR.out.bel.trans (Ky.later bwr.out.1 HX.out)).bel.trans KS.bel, fun q c t f h1 h2 h3 => by
        have hq : q ≠ w.heap.size := fun e => by have := (Array.getElem?_eq_some_iff.1 h1).1; omega
        exact ((Below.heap_setCell _ _ _ _ hq).trans (Below.heap_setCell _ _ _ _ hq)).trans ((HR.out.bel.trans (Ky.later bwr.out.1 HX.out)).keep q c t f h1 h2 h3)⟩⟩
      · exact HF5.out.ky KS.ky.any (by simp)
      · rw [HK.out]; exact own_ky (own_later Hr.out.1 HX.out) KS.ky (by simp) (fun _ _ => id)
      · have := (Hr.out.2.map (fun q => q.later HX.out) (fun q => q.later HX.out)).map (w' := (w5.setCell ⟨w.heap.size, 0, none⟩ (.slice (some ⟨g5, 0, none⟩) n0 n0)).setCell ⟨w.heap.size, 1, none⟩ (.slice ga i pc)) (fun q => q.ky (X := X) KS.ky.any (by simp)) (fun q => q.ky (X := X) KS.ky.any (by simp))
        have hma : mix V D (fun n => numD V (D n)) i = V.map fun n => numD V (D n) := by rw [← HK.out]; exact mix_all _ _ _
        rw [hma] at this
        exact this
    case pos =>
    have hlt' : (i : Int) < k := by omega
    obtain ⟨nb, cap, ev⟩ := own4_form r1 (by omega)
    simp only [Value.slice.injEq] at ev
    obtain ⟨rfl, _, rfl⟩ := ev
    obtain ⟨hn1, hn2, hn3, hn4, ⟨cur, hn5⟩, hn6, hn7⟩ := own4 r1
    have hiV : i < V.length := by rw [HK.out]; exact hlt
    have hiM : i < (mix V D (fun n => numD V (D n)) i).length := by rw [mix_len]; exact hiV
    obtain ⟨o1, c1, o2, c2, g0, g1, g2, g3, F1, F2⟩ := nl.get i hiM
    have hset := fun {o : Option Addr} {c : Nat} {ks : List Int} (f : Fs lo X wr .i64 3 o c ks) => nl.set i hiM f
    have hmi : (mix V D (fun n => numD V (D n)) i)[i] = D V[i] := by rw [mix_get, if_neg (Nat.lt_irrefl _)]
    rw [hmi] at g0 g1 g2 g3 F1 F2
    have hms := mix_set V D (fun n => numD V (D n)) i hiV
    have a0 : wr.cell? ⟨nb, i * 4, none⟩ = some (.int .i64 (D V[i]).k) := (hn6 _ (by omega)).1.trans g0
    have a1 : wr.cell? ⟨nb, i * 4 + 1, none⟩ = some (.int .i64 (D V[i]).i) := (hn6 _ (by omega)).1.trans g1
    have a2 : wr.cell? ⟨nb, i * 4 + 2, none⟩ = some (.slice o1 (D V[i]).ns.length c1) := (hn6 _ (by omega)).1.trans g2
    have a3 : wr.cell? ⟨nb, i * 4 + 3, none⟩ = some (.slice o2 (D V[i]).ks.length c2) := (hn6 _ (by omega)).1.trans g3
    have CR := fun (W : World) (B : Below wr.heap.size wr W) => numbered45q (HR.out.mq.later bwr.out.1 B) (Nat.le_trans bwr.out.1 B.size) (Nat.le_trans bwr.out.2.1 B.size) (D V[i]).ks o2 c2 (F2.later B).ps (fun x hx => isI_plc hm (HD.out V[i] x hx)) (HDl.out V[i])
    have HMS : Hid (∀ (W : World) (B : Below wr.heap.size wr W) (o : Option Addr) (c : Nat), Fs lo X W .i64 3 o c ((D V[i]).ks.map (numI V)) → NL lo X W (mix V D (fun n => numD V (D n)) (i + 1)) (cs.set (i * 4 + 3) (.slice o (D V[i]).ks.length c))) := ⟨fun W B o c f => by
      have q := (nl.map (fun q => q.later B) (fun q => q.later B)).set i hiM f
      rw [hmi, List.length_map] at q
      rw [← hms]
      exact q⟩
    generalize D V[i] = y at *
    obtain ⟨yk, yi, yns, yks⟩ := y
    dsimp only at *
    obtain ⟨n1, h1⟩ : ∃ n, yns.length = n := ⟨_, rfl⟩
    obtain ⟨n2, h2⟩ : ∃ n, yks.length = n := ⟨_, rfl⟩
    rw [h1] at a2
    rw [h2] at a3 CR
    rw [h2] at HMS
    have HCR := Hid.mk CR
    have Hr := Hid.mk r1
    have HH7 := Hid.mk hn7
    have HH5 := Hid.mk (And.intro hn1 (And.intro hn2 hn5))
    have B1 : Below wr.heap.size wr (wr.alloc (.cells #[.int .i64 yk, .int .i64 yi, .slice o1 n1 c1, .slice o2 n2 c2] 34)) := Joins.below_alloc1 _ _
    have HX : Hid (Below wr.heap.size wr (wr.alloc (.cells #[.int .i64 yk, .int .i64 yi, .slice o1 n1 c1, .slice o2 n2 c2] 34)).drew) := ⟨B1.drew⟩
    have k3 : (wr.alloc (.cells #[.int .i64 yk, .int .i64 yi, .slice o1 n1 c1, .slice o2 n2 c2] 34)).cell? ⟨wr.heap.size, 3, none⟩ = some (.slice o2 n2 c2) := by simp [go_sem]
    have m3 := cellLater B1 e3
    have HS0 : Hid (∀ W, Below (wr.heap.size + 1) (wr.alloc (.cells #[.int .i64 yk, .int .i64 yi, .slice o1 n1 c1, .slice o2 n2 c2] 34)) W → (W.cell? ⟨w.heap.size + 2, 3, none⟩ = some (.slice (some ⟨nb, 0, none⟩) k pc) ∧ W.cell? ⟨wr.heap.size, 3, none⟩ = some (.slice o2 n2 c2) ∧ W.cell? ⟨nb, i * 4 + 3, none⟩ = some (.slice o2 n2 c2) ∧ W.frozen? ⟨nb, i * 4 + 3, none⟩ = false)) := ⟨fun W B => by
      have e : (wr.alloc (.cells #[.int .i64 yk, .int .i64 yi, .slice o1 n1 c1, .slice o2 n2 c2] 34)).heap.size = wr.heap.size + 1 := by simp
      rw [← e] at B
      have hnb := (B.block nb (by rw [e]; omega)).trans ((Below.heap_alloc wr _ nb hn2).trans hn5)
      exact ⟨cellLater B m3, cellLater B k3, cellLater B (cellLater B1 a3), Joins.unfrozen_of_block hnb _⟩⟩
    have HXA : Hid (Below (wr.heap.size + 1) (wr.alloc (.cells #[.int .i64 yk, .int .i64 yi, .slice o1 n1 c1, .slice o2 n2 c2] 34)) (wr.alloc (.cells #[.int .i64 yk, .int .i64 yi, .slice o1 n1 c1, .slice o2 n2 c2] 34)).drew) := ⟨(Below.refl _ _).drew⟩
    have nn1 : ¬ (nb = wr.heap.size) := by omega
    have nn2 : ¬ (nb = w.heap.size + 2) := fun e => by
      have := HR.out.mq.box
      rw [← e, hn5] at this
      cases this
    have nn3 : ¬ (w.heap.size + 2 = nb) := fun e => nn2 e.symm
    have nn4 : ¬ (wr.heap.size = nb) := by omega
    have hcapk := Hid.mk (And.intro hn3 hn4)
    have hk3 := hn3
    unfold Go.maxLen at hn4
    clear CR r1 nl e0 e1 e2 hn1 hn2 hn5 hn6 hn7 g0 g1 g2 g3 F1 F2 hset hmi hms h1 h2 B1
    go_wp2
    go_region_held3 (fun W' => W'.cell? ⟨w.heap.size + 2, 3, none⟩ = some (.slice (some ⟨nb, 0, none⟩) k pc) ∧ W'.cell? ⟨wr.heap.size, 3, none⟩ = some (.slice o2 n2 c2)) (go_keep) (first | (go_at_call 45; refine (HCR.out _ HX.out).mono ?_; rintro e w5 ⟨⟨g5, rfl, F5, _⟩, B5⟩; have HF5 := Hid.mk F5; replace HX := Hid.mk (belowOn HX.out B5); replace HXA := Hid.mk (HXA.out.trans (B5.mono (by simp))); obtain ⟨q3, q4, q5, q6⟩ := HS0.out _ HXA.out; clear F5 B5))
    go_wp2
    go_roundw
    case rel =>
      refine ⟨i + 1, by go_num, by omega, ⟨?_⟩⟩
      have hnb5 := (HX.out.block nb HH5.out.2.1).trans HH5.out.2.2
      have bw5 : base ≤ w5.heap.size := Nat.le_trans bwr.out.1 HX.out.size
      have KA : Kt base 34 w5 (w5.setCell ⟨nb, i * 4 + 3, none⟩ (.slice (some ⟨g5, 0, none⟩) n2 n2)) := Kt.set hnb5 (Nat.le_trans bl HH5.out.1)
      have r5 := (own4 (own_later Hr.out HX.out)).2.2.2.2.2.2 (i * 4 + 3) (.slice (some ⟨g5, 0, none⟩) n2 n2) (by omega)
      have n5 := (HMS.out w5 HX.out _ _ HF5.out).map (w' := w5.setCell ⟨nb, i * 4 + 3, none⟩ (.slice (some ⟨g5, 0, none⟩) n2 n2)) (fun q => q.ky (X := X) KA.ky.any (by simp)) (fun q => q.ky (X := X) KA.ky.any (by simp))
      exact ⟨⟨_, by rw [HK.out]; exact r5, n5⟩, (HR.out.mq.later bwr.out.1 HX.out).keep KA.keep, KA.keep _ _ ((HX.out.block _ (Array.getElem?_eq_some_iff.1 HR.out.box).1).trans HR.out.box) (fun c f e => by cases e), (HR.out.bel.trans (Ky.later bwr.out.1 HX.out)).trans (KA.ky.any.mono (by simp)), (HR.out.pl.later HX.out).ky (X := X) KA.ky.any (by simp)⟩
    case measure => simp [intOf]; omega
end
end Go.Proofs.Ytncimddgkgclpaa
