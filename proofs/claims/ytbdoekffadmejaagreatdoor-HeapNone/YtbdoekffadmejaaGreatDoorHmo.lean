/- Package heap: a generation is set aside: the maps. -/
import Derived.Test.YtbdoekffadmejaaGreatDoorHmp
import Derived.Test.YtbdoekffadmejaaGreatDoorRnd
import Derived.RangeFuncWrites
namespace Go.Proofs.YtbdoekffadmejaaGreatDoor
open Go.RowKit Go.Shelf
open Go.Maps (Keyed int_keyed)
set_option linter.unusedVariables false
set_option linter.unusedSimpArgs false
set_option maxRecDepth 100000
attribute [local go_sem] Oper.semAt_some

/-- A generation's things go from one map to the other one, step by step. -/
def movG (H : Hs) (g : Nat) (s0 : Wh × Wh) : Nat → Wh × Wh
  | 0 => s0
  | s + 1 => movL (movG H g s0 s) (H.sp g s).l
abbrev two (wm am : Nat) (k : Nat) : Prop := k = wm ∨ k = am
/-- Two maps on the way. -/
structure Sa (W0 W : World) (wm am n1 n2 : Nat) (s : Wh × Wh) : Prop where
  wh : WM W wm n1 s.1
  av : WM W am n2 s.2
  chg : Bp.Chg (two wm am) W0 W
section
variable {W0 W W' : World} {wm am n1 n2 : Nat} {s : Wh × Wh}
theorem Sa.cell (q : Sa W0 W wm am n1 n2 s) {b i : Nat} {v : Value} (c : W0.cell? ⟨b, i, none⟩ = some v) (h1 : b ≠ wm) (h2 : b ≠ am) : W.cell? ⟨b, i, none⟩ = some v :=
  (World.cell?_of_block (q.chg.block b (World.block_lt_of_cell? _ _ c) (fun e => e.elim h1 h2))).trans c
theorem Sa.later (q : Sa W0 W wm am n1 n2 s) (B : Below W.heap.size W W') : Sa W0 W' wm am n1 n2 s :=
  ⟨q.wh.of_block (B.block _ q.wh.lt), q.av.of_block (B.block _ q.av.lt), q.chg.trans (Bp.Chg.later B)⟩
theorem WM.mono {w : World} {m n n' : Nat} {f : Wh} (h : WM w m n f) (e : n ≤ n') : WM w m n' f := by obtain ⟨g, a, b⟩ := h; exact ⟨g, a.mono e, b⟩
theorem Sa.grown (q : Sa W0 W wm am n1 n2 s) {row : Option Nat} (g : W.grownBy W' row) (h : ∀ r, row = some r → W0.heap.size ≤ r ∧ r ≠ wm ∧ r ≠ am) : Sa W0 W' wm am n1 n2 s :=
  ⟨q.wh.of_block (g.block _ q.wh.lt (fun e => (h _ e.symm).2.1 rfl)), q.av.of_block (g.block _ q.av.lt (fun e => (h _ e.symm).2.2 rfl)),
    ⟨g.os.trans q.chg.os, g.tape.trans q.chg.tape, g.output.trans q.chg.output, Nat.le_trans q.chg.size g.size, fun k hk hx => (g.block k (Nat.lt_of_lt_of_le hk q.chg.size) (fun e => by have := (h _ e.symm).1; omega)).trans (q.chg.block k hk hx)⟩⟩
end
theorem sa_own {B : Nat} {L : List (Nat × Nat)} {W1 : World} {wm am n1 n2 : Nat} {s0 : Wh × Wh} (h1 : W1.heap.size ≤ B) (hw : wm < W1.heap.size) (ha : am < W1.heap.size) :
    OwnFrom B (fun (pre : List (Bp.El L)) W => Sa W1 W wm am n1 (n2 + pre.length) (movL s0 (pre.map Subtype.val))) := by
  intro s W W' row q g hr
  exact q.grown g (fun r e => by have := (hr r e).1; omega)
/-- A round's two operations. -/
theorem Sa.step {W1 W W3 W4 : World} {wm am n1 n2 : Nat} {s : Wh × Wh} (q : Sa W1 W wm am n1 n2 s) (ne : wm ≠ am) (x : Int) (G3 : W.grownBy W3 (some am)) (M3 : WM W3 am (n2 + 1) (fun y => if y = x then some ((s.1 x).getD (0, 0)) else s.2 y))
    (G4 : W3.grownBy W4 (some wm)) (M4 : WM W4 wm n1 (delF s.1 x)) : Sa W1 W4 wm am n1 (n2 + 1) (movF s x) :=
  ⟨M4, M3.of_block (G4.block _ M3.lt (by simpa using ne.symm)),
    ⟨G4.os.trans (G3.os.trans q.chg.os), G4.tape.trans (G3.tape.trans q.chg.tape), G4.output.trans (G3.output.trans q.chg.output), Nat.le_trans q.chg.size (Nat.le_trans G3.size G4.size), fun k hk hx =>
      (G4.block k (by have := q.chg.size; have := G3.size; omega) (fun e => hx (by cases e; exact .inl rfl))).trans ((G3.block k (by have := q.chg.size; omega) (fun e => hx (by cases e; exact .inr rfl))).trans (q.chg.block k hk hx))⟩⟩
theorem sty_two {W W' : World} {Bs wm am B : Nat} {ga : Option Addr} (g : ∀ k, k < W.heap.size → k ≠ wm → k ≠ am → W'.heap[k]? = W.heap[k]?) (hz : ∀ k, Bp.kz Bs ga k → k < W.heap.size ∧ k ≠ wm ∧ k ≠ am) : Bp.Sty (Bp.kz Bs ga) W W' :=
  fun k q => g k (hz k q).1 (hz k q).2.1 (hz k q).2.2
/-- Which places may stand in a map. -/
def okW (c : Cf) (f : Wh) : Prop := ∀ x g s, f x = some (g, s) → 1 ≤ x ∧ x < c.b * 64 ∧ g < c.g ∧ s < c.n g
theorem okW_movF {c : Cf} (ok : c.Ok) {s : Wh × Wh} (h : okW c s.1 ∧ okW c s.2) {x : Int} (hx : 1 ≤ x ∧ x < c.b * 64) : okW c (movF s x).1 ∧ okW c (movF s x).2 := by
  refine ⟨fun y g t e => ?_, fun y g t e => ?_⟩
  · simp only [movF, delF] at e
    split at e
    · cases e
    · exact h.1 y g t e
  · simp only [movF, updF] at e
    split at e
    · rename_i q; subst q
      simp only [Option.some.injEq] at e
      cases hv : s.1 y with
      | none =>
        rw [hv] at e; cases e
        have := ok.g; have := ok.n 0
        exact ⟨hx.1, hx.2, by omega, by omega⟩
      | some v => rw [hv] at e; cases e; exact h.1 y _ _ hv
    · exact h.2 y g t e
theorem okW_movL {c : Cf} (ok : c.Ok) : ∀ (l : List (Nat × Nat)) (s : Wh × Wh), okW c s.1 ∧ okW c s.2 → (∀ x ∈ l, 1 ≤ x.1 ∧ x.1 < c.b * 64) → okW c (movL s l).1 ∧ okW c (movL s l).2
  | [], s, h, _ => h
  | x :: l, s, h, hx => by
    have hx0 := hx x (by simp)
    exact okW_movL ok l (movF s x.1) (okW_movF ok h (by omega)) (fun y hy => hx y (by simp [hy]))
theorem okW_movG {H : Hs} (ok : H.c.Ok) {g : Nat} {s0 : Wh × Wh} (h : okW H.c s0.1 ∧ okW H.c s0.2) : ∀ n, (∀ s, s < n → ∀ x ∈ (H.sp g s).l, 1 ≤ x.1 ∧ x.1 < H.c.b * 64) → okW H.c (movG H g s0 n).1 ∧ okW H.c (movG H g s0 n).2
  | 0, _ => h
  | n + 1, hx => okW_movL ok _ _ (okW_movG ok h n (fun s hs => hx s (by omega))) (hx n (by omega))
/-- What setAside leaves. -/
def Hs.asd (H : Hs) (K : Wk) (g : Nat) : Hs := { H.re g with wh := (movG H g (H.wh, K.av) (H.c.n g)).1, L := Rm.takeS H.c.g H.L g }
def Wk.asd (K : Wk) (H : Hs) (g : Nat) : Wk := { K with old := K.old ++ (List.range (H.c.n g)).map (H.sp g), av := (movG H g (H.wh, K.av) (H.c.n g)).2 }
theorem pt_one (σs : List Nat) : ∀ u ∈ σs.map pt, u.oneCell' = true := by
  intro u hu
  obtain ⟨x, _, rfl⟩ := List.mem_map.1 hu
  rfl
set_option maxHeartbeats 4000000 in
theorem set_aside {w : World} {γ : Nat → Tg} {h : Nat} {A : Ad} {H : Hs} {B : Wa} {K : Wk} (q : Wm w γ h A H B K) (g : Nat) (hg : g < H.c.g) (hl : ∀ s, s < H.c.n g → (H.sp g s).l.length ≤ 1000) (hpos : ∀ s, s < H.c.n g → ∀ x ∈ (H.sp g s).l, 1 ≤ x.1 ∧ x.1 < H.c.b * 64) (han : B.an ≤ 1000000) (hgs : B.gs.length ≤ 1000) :
    Calls Tryz.prog 77 #[pt h, .int .i64 g] w fun e w' => e = .returned (.tuple #[]) ∧ ∃ γ' v1 σ1 gv, Wm w' γ' h (A.re g v1 σ1) (H.asd K g) { B with gv := gv, gs := B.gs ++ (List.range (H.c.n g)).map (A.σ g), an := B.an + 1000 * H.c.n g } (K.asd H g) ∧ Fr hTn w w' γ γ' := by
  refine (callsIn_wide (n := 3)).1 ?_
  refine callsIn_of_wp_marks Tryz.func77 rfl trivial ?_ rfl
  simp only [Tryz.ntmps77, List.size_toArray, List.length_cons, List.length_nil, Nat.reduceAdd, Nat.reduceSub, Array.replicate_succ, Array.replicate_zero, List.push_toArray, List.append_toArray, List.nil_append, List.cons_append]
  have F0 := Fr.alloc (fun _ => False) w γ (.cells #[pt h] 38) (.x 0)
  have qh := q.hm.alloc (.cells #[pt h] 38) (.x 0)
  have qk := q.km.fr' F0 id id id id id id id (fun _ _ => ⟨id, id, id⟩)
  have nn := H.c.n g
  have on := q.hm.ok.n g
  have og := q.hm.ok.g
  obtain ⟨ob, cap, ib, cap', eo, t1, l1, c1, ei, t2, l2, c2⟩ := qh.row.get hg (s := 0) (by omega)
  have c7 := qh.co
  rw [eo] at c7
  rw [ei] at c1
  have hg' : (g : Int) < H.c.g := by omega
  clear nn c2
  have HAP := Hid.mk q.ap
  have HF00 := Hid.mk (Fr.alloc hTn w γ (.cells #[pt h] 38) (.x 0))
  have HPOS := Hid.mk hpos
  have HQH := Hid.mk qh
  have HQK := Hid.mk qk
  have ckb : (w.alloc (.cells #[pt h] 38)).cell? ⟨B.kb, 1, none⟩ = some (.map (some B.am)) := by rw [Joins.cell_of_block qk.box]; rfl
  have c10 := qh.ck
  have c8 := qh.cw
  have cbx : (w.alloc (.cells #[pt h] 38)).cell? ⟨w.heap.size, 0, none⟩ = some (pt h) := by rw [Joins.cell_of_block (heap_alloc_new w _)]; rfl
  have tgx : tagd γ w.heap.size (.x 0) w.heap.size = .x 0 := tagd_same _ _ _
  have ne : ∀ {t : Tg} {x y : Nat}, tagd γ w.heap.size (.x 0) x = t → tagd γ w.heap.size (.x 0) y ≠ t → x ≠ y := fun a b e => b (by rw [← e]; exact a)
  have twm := qh.whT
  have tam := qk.avT
  have nwa : A.wm ≠ B.am := ne twm (by rw [tam]; nofun)
  have HS0 : Hid (Sa (w.alloc (.cells #[pt h] 38)) (w.alloc (.cells #[pt h] 38)) A.wm B.am A.wn B.an (H.wh, K.av)) := ⟨⟨qh.wh, qk.av, Bp.Chg.refl _ _⟩⟩
  have nh : h ≠ A.wm ∧ h ≠ B.am := ⟨ne qh.tag (by rw [twm]; nofun), ne qh.tag (by rw [tam]; nofun)⟩
  have nk : B.kb ≠ A.wm ∧ B.kb ≠ B.am := ⟨ne qk.tag (by rw [twm]; nofun), ne qk.tag (by rw [tam]; nofun)⟩
  have nx : w.heap.size ≠ A.wm ∧ w.heap.size ≠ B.am := ⟨ne tgx (by rw [twm]; nofun), ne tgx (by rw [tam]; nofun)⟩
  have ni : ib ≠ A.wm ∧ ib ≠ B.am := ⟨ne t2 (by rw [twm]; nofun), ne t2 (by rw [tam]; nofun)⟩
  have HNE := Hid.mk (show _ ∧ _ ∧ _ ∧ _ from ⟨nh, nk, nx, ni⟩)
  clear qh qk q F0 nh nk nx ni
  obtain ⟨n, hn⟩ : ∃ n, H.c.n g = n := ⟨_, rfl⟩
  rw [hn] at hl on
  rw [hn] at c1
  gi_wp2
  refine wpIn_loop (fun a' W => ∃ (j : Nat) (ds : List Nat) (u5 u6 u16 u17 u18 u19 u20 u21 u22 u23 u24 u25 u26 u27 u28 u29 u30 u31 u32 u33 u34 u35 u36 u37 u38 u39 u40 u41 u42 : Value), a' = { tmps := #[pt h, .int .i64 g, pt w.heap.size, undef, undef, u5, u6, pt h, pt h, .pointer (some ⟨h, 7, none⟩), .slice (some ⟨ob, 0, none⟩) H.c.g cap, .int .i64 g, .pointer (some ⟨ob, g, none⟩), .slice (some ⟨ib, 0, none⟩) n cap', .int .i64 n, .int .i64 j, u16, u17, u18, u19, u20, u21, u22, u23, u24, u25, u26, u27, u28, u29, u30, u31, u32, u33, u34, u35, u36, u37, u38, u39, u40, u41, u42, undef, undef, undef, undef, undef, undef, undef, undef, undef, undef, undef, undef, undef, undef, undef, undef, undef, undef, undef, undef, undef, undef, undef, undef, undef, undef, undef, undef, undef, undef, undef, undef, undef, undef, undef, undef], defers := ds.map fun D => { target := .collected D, args := #[] } } ∧ j ≤ n ∧ Hid (Sa (w.alloc (.cells #[pt h] 38)) W A.wm B.am A.wn (B.an + 1000 * j) (movG H g (H.wh, K.av) j)) ∧ Hid (ds.Nodup ∧ ∀ D ∈ ds, (w.alloc (.cells #[pt h] 38)).heap.size ≤ D ∧ W.heap[D]? = some (.deferred (some [])))) (fun a' _ => n - (RowKit.intOf (a'.tmps.getD 15 undef)).toNat) ?_ ?_
  · exact ⟨0, [], _, _, _, _, _, _, _, _, _, _, _, _, _, _, _, _, _, _, _, _, _, _, _, _, _, _, _, _, _, rfl, Nat.zero_le _, HS0, ⟨⟨List.nodup_nil, fun D h => by cases h⟩⟩⟩
  rintro a' W ⟨j, ds, u5, u6, u16, u17, u18, u19, u20, u21, u22, u23, u24, u25, u26, u27, u28, u29, u30, u31, u32, u33, u34, u35, u36, u37, u38, u39, u40, u41, u42, rfl, hj, HS, HD⟩
  by_cases hlt : j < n
  · have hlt' : (j : Int) < n := by omega
    obtain ⟨ob2, cap2, ib2, cap2', eo2, _, _, _, ei2, _, _, c2⟩ := HQH.out.row.get hg (s := j) (by rw [hn]; exact hlt)
    rw [ei] at ei2
    cases ei2
    obtain ⟨m, v, hS, s1, s2, s3⟩ := HQH.out.sps g j hg (by rw [hn]; exact hlt)
    have FT := HQH.out.fit g j hg (by rw [hn]; exact hlt)
    have hlj := hl j hlt
    have nft : ∀ k, Bp.ft (A.σ g j) m v k → k ≠ A.wm ∧ k ≠ B.am := by
      rintro k (rfl | rfl | e)
      · exact ⟨ne s1 (by rw [twm]; nofun), ne s1 (by rw [tam]; nofun)⟩
      · exact ⟨ne s2 (by rw [twm]; nofun), ne s2 (by rw [tam]; nofun)⟩
      · exact ⟨ne (s3 k e) (by rw [twm]; nofun), ne (s3 k e) (by rw [tam]; nofun)⟩
    have hSW := hS.chg HS.out.chg (fun k hk e => e.elim (nft k hk).1 (nft k hk).2)
    have ftl := fun k (hk : Bp.ft (A.σ g j) m v k) => hSW.lt k hk
    have EA := Bp.each_any hSW hlj
    have c2W := HS.out.cell c2 HNE.out.2.2.2.1 HNE.out.2.2.2.2
    have movS : movG H g (H.wh, K.av) (j + 1) = movL (movG H g (H.wh, K.av) j) (H.sp g j).l := rfl
    have HMV := Hid.mk movS
    have HFT := Hid.mk FT
    have HNF := Hid.mk nft
    have HFL := Hid.mk ftl
    have xin : ∀ x ∈ (H.sp g j).l, isI ((x.1 : Nat) : Int) := fun x hx => by have := FT.ats x hx; have := HQH.out.ok.b; exact ⟨by omega, by omega⟩
    have HXI := Hid.mk xin
    obtain ⟨σ, hσ⟩ : ∃ σ, A.σ g j = σ := ⟨_, rfl⟩
    rw [hσ] at EA c2W
    generalize hSl : (H.sp g j).l = sl at *
    clear hS s1 s2 s3 nft ftl hSW c2 FT movS xin eo2
    gi_wp2_with (refine ⟨trivial, ?_⟩; gi_at_call 85; refine (callsIn_wide.2 EA).mono ?_; rintro e w1 ⟨Bs, ga, rfl, hBs, L1, hga, B1⟩)
    have HS1 := Hid.mk (HS.out.later B1)
    have hww := HS0.out.wh.lt
    have haa := HS0.out.av.lt
    have hsz1 := HS.out.chg.size
    have hsz2 := B1.size
    have hz : ∀ k, Bp.kz Bs ga k → k < w1.heap.size ∧ k ≠ A.wm ∧ k ≠ B.am := by
      rintro k (rfl | ⟨o, e⟩)
      · exact ⟨lt_of L1.sl, by omega, by omega⟩
      · have e2 := hga k o e
        have := HNF.out k (.inr (.inr e2))
        exact ⟨by have := HFL.out k (.inr (.inr e2)); omega, this.1, this.2⟩
    have Hz := Hid.mk hz
    have HB1 := Hid.mk B1
    have K0 := Hid.mk (HS1.out.cell cbx HNE.out.2.2.1.1 HNE.out.2.2.1.2)
    have K10 := Hid.mk (HS1.out.cell c10 HNE.out.1.1 HNE.out.1.2)
    have K1 := Hid.mk (HS1.out.cell ckb HNE.out.2.1.1 HNE.out.2.1.2)
    have K8 := Hid.mk (HS1.out.cell c8 HNE.out.1.1 HNE.out.1.2)
    obtain ⟨sj, hsj⟩ : ∃ sj, movG H g (H.wh, K.av) j = sj := ⟨_, rfl⟩
    rw [hsj] at HMV HS1 HS
    have hwm1 : A.wm < w1.heap.size := by omega
    have ham1 : B.am < w1.heap.size := by omega
    clear hz hsj EA hga
    refine wpIn_rangeFunc_ownG rfl (by decide) (gf := 141) (lb := #[.pointer (some ⟨Bs, 0, none⟩)]) rfl trivial (enters_of Tryz.func141 (by kernel_rfl) rfl)
      (Bp.each_stops 2 Bs sl.length ga sl (by decide) _ L1) Bp.Sty.trans (Bp.Sty.put (fun k q => (Hz.out k q).1)) (Below.refl _ _) (fun _ => rfl)
      (fun pre W' => Sa w1 W' A.wm B.am A.wn (B.an + 1000 * j + pre.length) (movL sj (pre.map Subtype.val)))
      (fun _ _ _ => False)
      (sa_own (Nat.le_refl _) hwm1 ham1)
      (fun _ _ _ _ _ hs _ _ => hs)
      ⟨HS1.out.wh, HS1.out.av, Bp.Chg.refl _ _⟩
      (fun x => { tmps := #[pt h, .int .i64 g, pt w.heap.size, undef, undef, pt σ, .int .i64 x.1.1, pt h, pt h, .pointer (some ⟨h, 7, none⟩), .slice (some ⟨ob, 0, none⟩) H.c.g cap, .int .i64 g, .pointer (some ⟨ob, g, none⟩), .slice (some ⟨ib, 0, none⟩) n cap', .int .i64 n, .int .i64 j, .bool true, .pointer (some ⟨ib, j, none⟩), pt σ, pt σ, .func (.func 141) #[] #[pt Bs], .int .i64 x.1.1, .int .i64 x.1.2, u23, u24, u25, u26, u27, u28, u29, u30, u31, u32, u33, u34, u35, u36, u37, u38, u39, u40, u41, u42, undef, undef, undef, undef, undef, undef, undef, undef, undef, undef, undef, undef, undef, undef, undef, undef, undef, undef, undef, undef, undef, undef, undef, undef, undef, undef, undef, undef, undef, undef, undef, undef, undef, undef, undef, undef], defers := [] }) ?assign ?body ?done ?stop
    case assign =>
      intro l x W' K' hK'
      gi_wp2
      exact hK'
    case body =>
      rintro l pre x W' hI hpl
      have HI := Hid.mk hI
      have k0 : W'.drew.cell? ⟨w.heap.size, 0, none⟩ = some (pt h) := hI.cell K0.out HNE.out.2.2.1.1 HNE.out.2.2.1.2
      have k10 : W'.drew.cell? ⟨h, 10, none⟩ = some (pt B.kb) := hI.cell K10.out HNE.out.1.1 HNE.out.1.2
      have k1 : W'.drew.cell? ⟨B.kb, 1, none⟩ = some (.map (some B.am)) := hI.cell K1.out HNE.out.2.1.1 HNE.out.2.1.2
      have k8 : W'.drew.cell? ⟨h, 8, none⟩ = some (.map (some A.wm)) := hI.cell K8.out HNE.out.1.1 HNE.out.1.2
      have HX : Hid (isI ((x.1.1 : Nat) : Int)) := ⟨HXI.out x.1 x.2⟩
      have hpre : pre.length < 1000 := by omega
      have HSN : Hid (movL sj ((pre ++ [x]).map Subtype.val) = movF (movL sj (pre.map Subtype.val)) x.1.1) := ⟨by rw [List.map_append]; exact movL_snoc _ _ _⟩
      have HLN : Hid (B.an + 1000 * j + (pre ++ [x]).length = B.an + 1000 * j + pre.length + 1) := ⟨by simp; omega⟩
      obtain ⟨z, hzz⟩ : ∃ z, ((x.1.1 : Nat) : Int) = z := ⟨_, rfl⟩
      simp only [hzz] at HX HSN ⊢
      obtain ⟨f, hf⟩ : ∃ f, (movL sj (pre.map Subtype.val)).1 = f := ⟨_, rfl⟩
      obtain ⟨y, hy⟩ : ∃ y, (f z).getD (0, 0) = y := ⟨_, rfl⟩
      have HY := Hid.mk hy
      have HFF := Hid.mk hf
      have HM1 : Hid (WM W'.drew A.wm A.wn f) := ⟨by rw [← hf]; exact hI.wh.of_block rfl⟩
      obtain ⟨w3, run3, vm3, gr3⟩ := WM.store (w := W'.drew) (hI.av.of_block rfl) (by unfold maxLen; omega) HX.out y
      have k03 : w3.cell? ⟨w.heap.size, 0, none⟩ = some (pt h) := (World.cell?_of_block (gr3.block w.heap.size (World.block_lt_of_cell? _ _ k0) (by simpa using HNE.out.2.2.1.2))).trans k0
      have k103 : w3.cell? ⟨h, 10, none⟩ = some (pt B.kb) := (World.cell?_of_block (gr3.block h (World.block_lt_of_cell? _ _ k10) (by simpa using HNE.out.1.2))).trans k10
      have k13 : w3.cell? ⟨B.kb, 1, none⟩ = some (.map (some B.am)) := (World.cell?_of_block (gr3.block B.kb (World.block_lt_of_cell? _ _ k1) (by simpa using HNE.out.2.1.2))).trans k1
      have k83 : w3.cell? ⟨h, 8, none⟩ = some (.map (some A.wm)) := (World.cell?_of_block (gr3.block h (World.block_lt_of_cell? _ _ k8) (by simpa using HNE.out.1.2))).trans k8
      have m3 : WM w3 A.wm A.wn f := HM1.out.of_block (gr3.block _ HM1.out.lt (by simpa using nwa))
      obtain ⟨w4, run4, vm4, gr4⟩ := m3.del HX.out 0
      have HS3 := Hid.mk (show _ ∧ _ ∧ _ ∧ _ ∧ _ from ⟨k03, k103, k13, k83, m3⟩)
      have HV3 := Hid.mk vm3
      have HG3 := Hid.mk gr3
      have HV4 := Hid.mk vm4
      have HG4 := Hid.mk gr4
      clear hI hzz hf hy vm3 gr3 vm4 gr4 m3
      gi_wp2
      refine region_round (fun wx => wx.cell? ⟨w.heap.size, 0, none⟩ = some (pt h) ∧ wx.cell? ⟨h, 10, none⟩ = some (pt B.kb) ∧ wx.cell? ⟨B.kb, 1, none⟩ = some (.map (some B.am)) ∧ wx.cell? ⟨h, 8, none⟩ = some (.map (some A.wm)) ∧ WM wx A.wm A.wn f) (by kernel_rfl) (nd_of (by kernel_rfl)) ⟨k0, k10, k1, k8, HM1.out⟩ (fun hHeld => ?_)
      refine wpAnyH_take (i := 0) (v := ?_) rfl (by kernel_rfl) (by kernel_rfl) (by kernel_rfl) (fun _ _ _ h => nomatch h.1) (Or.inl ⟨by rfl, ?_⟩) (by assumption) ?_
      rotate_left
      · intro w' hSw
        try dsimp only at hSw
        go_simp
        try with_reducible rfl
      try simp only [Act.put, List.getElem_toArray, List.getElem_cons_zero, List.getElem_cons_succ, List.setIfInBounds_toArray, List.set_cons_zero, List.set_cons_succ]
      refine wpAnyH_take (i := 1) (v := ?_) rfl (by kernel_rfl) (by kernel_rfl) (by kernel_rfl) (fun _ _ _ h => nomatch h.1) (Or.inl ⟨by rfl, ?_⟩) (by assumption) ?_
      rotate_left
      · intro w' hSw
        try dsimp only at hSw
        go_simp
        try with_reducible rfl
      try simp only [Act.put, List.getElem_toArray, List.getElem_cons_zero, List.getElem_cons_succ, List.setIfInBounds_toArray, List.set_cons_zero, List.set_cons_succ]
      refine wpAnyH_take (i := 2) (v := ?_) rfl (by kernel_rfl) (by kernel_rfl) (by kernel_rfl) (fun _ _ _ h => nomatch h.1) (Or.inl ⟨by rfl, ?_⟩) (by assumption) ?_
      rotate_left
      · intro w' hSw
        try dsimp only at hSw
        go_simp
        try with_reducible rfl
      try simp only [Act.put, List.getElem_toArray, List.getElem_cons_zero, List.getElem_cons_succ, List.setIfInBounds_toArray, List.set_cons_zero, List.set_cons_succ]
      refine wpAnyH_take (i := 3) (v := ?_) rfl (by kernel_rfl) (by kernel_rfl) (by kernel_rfl) (fun _ _ _ h => nomatch h.1) (Or.inl ⟨by rfl, ?_⟩) (by assumption) ?_
      rotate_left
      · intro w' hSw
        try dsimp only at hSw
        go_simp
        try with_reducible rfl
      try simp only [Act.put, List.getElem_toArray, List.getElem_cons_zero, List.getElem_cons_succ, List.setIfInBounds_toArray, List.set_cons_zero, List.set_cons_succ]
      refine wpAnyH_take (i := 4) (v := ?_) rfl (by kernel_rfl) (by kernel_rfl) (by kernel_rfl) (fun _ _ _ h => nomatch h.1) (Or.inl ⟨by rfl, ?_⟩) (by assumption) ?_
      rotate_left
      · intro w' hSw
        try dsimp only at hSw
        go_simp
        try with_reducible rfl
      try simp only [Act.put, List.getElem_toArray, List.getElem_cons_zero, List.getElem_cons_succ, List.setIfInBounds_toArray, List.set_cons_zero, List.set_cons_succ]
      refine wpAnyH_take (i := 5) (v := ?_) rfl (by kernel_rfl) (by kernel_rfl) (by kernel_rfl) (fun _ _ _ h => nomatch h.1) (Or.inl ⟨by rfl, ?_⟩) (by assumption) ?_
      rotate_left
      · intro w' hSw
        try dsimp only at hSw
        go_simp
        try with_reducible rfl
      try simp only [Act.put, List.getElem_toArray, List.getElem_cons_zero, List.getElem_cons_succ, List.setIfInBounds_toArray, List.set_cons_zero, List.set_cons_succ]
      refine wpAnyH_take (i := 6) (v := ?_) rfl (by kernel_rfl) (by kernel_rfl) (by kernel_rfl) (fun _ _ _ h => nomatch h.1) (Or.inl ⟨by rfl, ?_⟩) (by assumption) ?_
      rotate_left
      · intro w' hSw
        try dsimp only at hSw
        go_simp
        try with_reducible rfl
      try simp only [Act.put, List.getElem_toArray, List.getElem_cons_zero, List.getElem_cons_succ, List.setIfInBounds_toArray, List.set_cons_zero, List.set_cons_succ]
      refine wpAnyH_take (i := 7) (v := ?_) rfl (by kernel_rfl) (by kernel_rfl) (by kernel_rfl) (fun _ _ _ h => nomatch h.1) (Or.inl ⟨by rfl, ?_⟩) (by assumption) ?_
      rotate_left
      · intro w' hSw
        try dsimp only at hSw
        go_simp
        try with_reducible rfl
      try simp only [Act.put, List.getElem_toArray, List.getElem_cons_zero, List.getElem_cons_succ, List.setIfInBounds_toArray, List.set_cons_zero, List.set_cons_succ]
      refine wpAnyH_take (i := 8) (v := ?_) rfl (by kernel_rfl) (by kernel_rfl) (by kernel_rfl) (fun _ _ _ h => nomatch h.1) (Or.inl ⟨by rfl, ?_⟩) (by assumption) ?_
      rotate_left
      · intro w' hSw
        try dsimp only at hSw
        go_simp
        try with_reducible rfl
      try simp only [Act.put, List.getElem_toArray, List.getElem_cons_zero, List.getElem_cons_succ, List.setIfInBounds_toArray, List.set_cons_zero, List.set_cons_succ]
      refine wpAnyH_take (i := 9) (v := ?_) rfl (by kernel_rfl) (by kernel_rfl) (by kernel_rfl) (fun _ _ _ h => nomatch h.1) (Or.inl ⟨by rfl, ?_⟩) (by assumption) ?_
      rotate_left
      · intro w' hSw
        try dsimp only at hSw
        go_simp
        try with_reducible rfl
      try simp only [Act.put, List.getElem_toArray, List.getElem_cons_zero, List.getElem_cons_succ, List.setIfInBounds_toArray, List.set_cons_zero, List.set_cons_succ]
      refine wpAnyH_take (i := 10) (v := ?_) rfl (by kernel_rfl) (by kernel_rfl) (by kernel_rfl) (fun _ _ _ h => nomatch h.1) (Or.inl ⟨by rfl, ?_⟩) (by assumption) ?_
      rotate_left
      · intro w' hSw
        try dsimp only at hSw
        go_simp
        try with_reducible rfl
      try simp only [Act.put, List.getElem_toArray, List.getElem_cons_zero, List.getElem_cons_succ, List.setIfInBounds_toArray, List.set_cons_zero, List.set_cons_succ]
      refine wpAnyH_take (i := 11) (v := ?_) rfl (by kernel_rfl) (by kernel_rfl) (by kernel_rfl) (fun _ _ _ h => nomatch h.1) (Or.inl ⟨by rfl, ?_⟩) (by assumption) ?_
      rotate_left
      · intro w' hSw
        try dsimp only at hSw
        go_simp
        try with_reducible rfl
      try simp only [Act.put, List.getElem_toArray, List.getElem_cons_zero, List.getElem_cons_succ, List.setIfInBounds_toArray, List.set_cons_zero, List.set_cons_succ]
      refine wpAnyH_take (i := 12) (v := ?_) rfl (by kernel_rfl) (by kernel_rfl) (by kernel_rfl) (fun _ _ _ h => nomatch h.1) (Or.inl ⟨by rfl, ?_⟩) (by assumption) ?_
      rotate_left
      · intro w' hSw
        try dsimp only at hSw
        go_simp
        try with_reducible rfl
      try simp only [Act.put, List.getElem_toArray, List.getElem_cons_zero, List.getElem_cons_succ, List.setIfInBounds_toArray, List.set_cons_zero, List.set_cons_succ]
      refine wpAnyH_take (i := 13) (v := plc y) rfl (by kernel_rfl) (by kernel_rfl) (by kernel_rfl) (fun _ _ _ h => nomatch h.1) (Or.inl ⟨by rfl, ?_⟩) (by assumption) ?_
      · intro w' hSw
        have hlk := hSw.2.2.2.2.look1 HX.out
        rw [HY.out] at hlk
        go_simp
        try with_reducible rfl
      try simp only [Act.put, List.getElem_toArray, List.getElem_cons_zero, List.getElem_cons_succ, List.setIfInBounds_toArray, List.set_cons_zero, List.set_cons_succ]
      refine wpAnyH_ready (rs := [14]) (by kernel_rfl) (by simp) ?_
      refine AllReadyH.cons rfl (fun K hK => ?_) AllReadyH.nil
      go_simp
      refine hK.out _ _ HS3.out (fun hHeld => ?_)
      clear hK K
      try simp only [Act.put, List.getElem_toArray, List.getElem_cons_zero, List.getElem_cons_succ, List.setIfInBounds_toArray, List.set_cons_zero, List.set_cons_succ]
      refine wpAnyH_done (by kernel_rfl) ⟨rfl, ?_⟩ _
      gi_wp2
      have G3 : W'.grownBy w3 (some B.am) := ⟨HG3.out.os, HG3.out.tape, HG3.out.output, HG3.out.size, HG3.out.block⟩
      refine ⟨?_, ?_, ?_⟩
      · exact (KeepsFrom.of_grownBy G3 (fun j e => by cases e; exact ham1)).trans (KeepsFrom.of_grownBy HG4.out (fun j e => by cases e; exact hwm1))
      · exact sty_two (B := 0) (wm := A.wm) (am := B.am) (fun k hk h1 h2 => (HG4.out.block k (by have := G3.size; omega) (by simpa using h1)).trans (G3.block k hk (by simpa using h2))) (fun k q => ⟨by have := (Hz.out k q).1; have := HI.out.chg.size; omega, (Hz.out k q).2⟩)
      · have st := HI.out.step nwa z G3 (by rw [HFF.out, HY.out]; exact HV3.out) HG4.out (by rw [HFF.out]; exact HV4.out)
        show Sa w1 w4 A.wm B.am A.wn (B.an + 1000 * j + (pre ++ [x]).length) (movL sj ((pre ++ [x]).map Subtype.val))
        rw [HLN.out, HSN.out]
        exact st
    case done =>
      rintro D ys W' hD hy hI hK
      have HI := Hid.mk hI
      have HK := Hid.mk hK
      have hyl : ys.length = sl.length := by simpa using congrArg List.length hy
      have HY := Hid.mk hy
      clear hI hK hy
      gi_wp2
      refine ⟨⟨j + 1, D :: ds, _, _, _, _, _, _, _, _, _, _, _, _, _, _, _, _, _, _, _, _, _, _, _, _, _, _, _, _, _, rfl, by omega, ⟨⟨?_, ?_, ?_⟩⟩, ⟨⟨?_, ?_⟩⟩⟩, ?_⟩
      · rw [HMV.out]; have := HI.out.wh; rwa [HY.out] at this
      · rw [HMV.out]; have := HI.out.av; rw [HY.out] at this; exact WM.mono this (by omega)
      · exact HS1.out.chg.trans HI.out.chg
      · refine List.nodup_cons.2 ⟨fun hm => ?_, HD.out.1⟩
        have := lt_of (HD.out.2 D hm).2
        omega
      · intro E hE
        rcases List.mem_cons.1 hE with rfl | hE
        · exact ⟨by omega, HK.out⟩
        · have e := HD.out.2 E hE
          have el := lt_of e.2
          refine ⟨e.1, (HI.out.chg.block E (by omega) (fun q => by rcases q with q | q <;> omega)).trans ((HB1.out.block E el).trans e.2)⟩
      · simp [RowKit.intOf]; omega
    case stop =>
      rintro D c pre W' _ _ hx
      exact hx.elim
  · obtain rfl : n = j := by omega
    clear hj hlt
    let γ1 : Nat → Tg := fun k => if (w.alloc (.cells #[pt h] 38)).heap.size ≤ k then .x 1 else tagd γ w.heap.size (.x 0) k
    have o1 : ∀ k, k < (w.alloc (.cells #[pt h] 38)).heap.size → γ1 k = tagd γ w.heap.size (.x 0) k := fun k hk => if_neg (by omega)
    have d1 : ∀ D ∈ ds, γ1 D = .x 1 := fun D hD => if_pos (HD.out.2 D hD).1
    have F1 : Fr tmk (w.alloc (.cells #[pt h] 38)) W (tagd γ w.heap.size (.x 0)) γ1 := (Fr.chg HS.out.chg (by
      rintro k hk (rfl | rfl)
      · exact .inl twm
      · exact .inr tam)).retag o1
    have okd := okW_movG HQH.out.ok (g := g) (s0 := (H.wh, K.av)) ⟨HQH.out.dom, HQK.out.dom⟩ n (by rw [← hn]; exact HPOS.out)
    have Q1 := HQH.out.maps F1 HS.out.wh okd.1
    have K1 := HQK.out.maps F1 HS.out.av okd.2
    have x1 : γ1 w.heap.size = .x 0 := (o1 _ (by simp)).trans tgx
    have ibt : γ1 ib = .si := F1.tg l2 t2
    have HF1 := Hid.mk F1
    have HD1 := Hid.mk d1
    have HX1 := Hid.mk x1
    have HG1 := Hid.mk o1
    clear F1 d1 x1 o1 okd
    generalize γ1 = γ1 at *
    have Q1d := Q1.later (below_drew1 W)
    have K1d := K1.fr' (Fr.later (fun _ => False) γ1 (below_drew1 W)) id id id id id id id (fun _ _ => ⟨id, id, id⟩)
    have b0 : W.drew.cell? ⟨w.heap.size, 0, none⟩ = some (pt h) := HS.out.cell cbx HNE.out.2.2.1.1 HNE.out.2.2.1.2
    have b10 : W.drew.cell? ⟨h, 10, none⟩ = some (pt B.kb) := Q1d.ck
    have b7 : W.drew.cell? ⟨h, 7, none⟩ = some A.ov := Q1d.co
    rw [eo] at b7
    have bg : W.drew.cell? ⟨ob, g, none⟩ = some (.slice (some ⟨ib, 0, none⟩) n cap') := HS.out.cell c1 (ne t1 (by rw [twm]; nofun)) (ne t1 (by rw [tam]; nofun))
    obtain ⟨ga0, k0, c0, e0⟩ := row_sl K1d.row
    simp only at e0
    have bk0 : W.drew.cell? ⟨B.kb, 0, none⟩ = some B.gv := by rw [Joins.cell_of_block K1d.box]; rfl
    rw [e0] at bk0
    have hrow := K1d.row
    simp only [e0] at hrow
    have hnews : ∀ j u, (((List.range n).map (A.σ g)).map pt)[j]? = some u → W.drew.cell? ⟨ib, j, none⟩ = some u := by
      intro j u hj
      have jl : j < n := by have := (List.getElem?_eq_some_iff.1 hj).1; simpa using this
      obtain ⟨b9, cap9, e9, _, c9⟩ := row_form (Q1d.row.inn g hg) (by show 1 ≤ H.c.n g; omega)
      have e9' : A.vs g = .slice (some ⟨b9, 0, none⟩) (H.c.n g) cap9 := e9
      rw [ei] at e9'
      cases e9'
      rw [c9 j (by show j < H.c.n g; omega)]
      have : ((List.range (H.c.n g)).map fun s => pt (A.σ g s))[j]? = some u := by rw [hn]; simpa using hj
      exact this
    have HNW := Hid.mk hnews
    have HRW := Hid.mk hrow
    have HQ1 := Hid.mk Q1d
    have HK1 := Hid.mk K1d
    have HSP : Hid (∀ i (hi : i < ((List.range n).map (A.σ g)).length), SpM W.drew γ1 A.p A.a ((List.range n).map (A.σ g))[i] (((List.range n).map (H.sp g)).getD i Bp.S0.none)) := ⟨fun i hi => by
      have hi' : i < n := by simpa using hi
      have := Q1d.sps g i hg (by show i < H.c.n g; omega)
      simp only [List.getElem_map, List.getElem_range]
      rw [List.getD_eq_getElem?_getD, List.getElem?_map, List.getElem?_range hi']
      exact this⟩
    have HND : Hid ((B.gs ++ (List.range n).map (A.σ g)).Nodup) := ⟨by
      refine List.nodup_append.2 ⟨K1d.nd, ?_, ?_⟩
      · unfold List.Nodup
        rw [List.pairwise_map]
        refine List.Pairwise.imp_of_mem (fun {x y} hx hy hne e => hne ?_) (List.nodup_range (n := n))
        exact (Q1d.inj g x g y hg (by show x < H.c.n g; have := List.mem_range.1 hx; omega) hg (by show y < H.c.n g; have := List.mem_range.1 hy; omega) e).2
      · intro x hx y hy e
        subst e
        obtain ⟨t, ht, rfl⟩ := List.mem_map.1 hy
        exact HAP.out g t hg (by have := List.mem_range.1 ht; omega) hx⟩
    have HFI : Hid (∀ S ∈ (List.range n).map (H.sp g), Bp.Fit S (H.c.b * 64)) := ⟨fun S hS => by
      obtain ⟨t, ht, rfl⟩ := List.mem_map.1 hS
      exact Q1d.fit g t hg (by show t < H.c.n g; have := List.mem_range.1 ht; omega)⟩
    clear Q1 K1 Q1d K1d hnews hrow
    gi_wp2
    refine wpIn_wide.2 ?_
    refine wp_region_noPanic ?_
    refine wp_region_held_drew (S := (fun wx => wx.cell? ⟨w.heap.size, 0, none⟩ = some (pt h) ∧ wx.cell? ⟨h, 10, none⟩ = some (pt B.kb) ∧ wx.cell? ⟨h, 7, none⟩ = some (.slice (some ⟨ob, 0, none⟩) H.c.g cap) ∧ wx.cell? ⟨ob, g, none⟩ = some (.slice (some ⟨ib, 0, none⟩) n cap'))) (by kernel_rfl) ⟨b0, b10, b7, bg⟩ (fun hHeld => ?_)
    refine wpAnyH_take (i := 0) (v := ?_) rfl (by kernel_rfl) (by kernel_rfl) (by kernel_rfl) (fun _ _ _ h => h) (Or.inl ⟨by rfl, ?_⟩) (by assumption) ?_
    rotate_left
    · intro w' hSw
      try dsimp only at hSw
      go_simp
      try with_reducible rfl
    try simp only [Act.put, List.getElem_toArray, List.getElem_cons_zero, List.getElem_cons_succ, List.setIfInBounds_toArray, List.set_cons_zero, List.set_cons_succ]
    refine wpAnyH_take (i := 1) (v := ?_) rfl (by kernel_rfl) (by kernel_rfl) (by kernel_rfl) (fun _ _ _ h => h) (Or.inl ⟨by rfl, ?_⟩) (by assumption) ?_
    rotate_left
    · intro w' hSw
      try dsimp only at hSw
      go_simp
      try with_reducible rfl
    try simp only [Act.put, List.getElem_toArray, List.getElem_cons_zero, List.getElem_cons_succ, List.setIfInBounds_toArray, List.set_cons_zero, List.set_cons_succ]
    refine wpAnyH_take (i := 2) (v := ?_) rfl (by kernel_rfl) (by kernel_rfl) (by kernel_rfl) (fun _ _ _ h => h) (Or.inl ⟨by rfl, ?_⟩) (by assumption) ?_
    rotate_left
    · intro w' hSw
      try dsimp only at hSw
      go_simp
      try with_reducible rfl
    try simp only [Act.put, List.getElem_toArray, List.getElem_cons_zero, List.getElem_cons_succ, List.setIfInBounds_toArray, List.set_cons_zero, List.set_cons_succ]
    refine wpAnyH_take (i := 3) (v := ?_) rfl (by kernel_rfl) (by kernel_rfl) (by kernel_rfl) (fun _ _ _ h => h) (Or.inl ⟨by rfl, ?_⟩) (by assumption) ?_
    rotate_left
    · intro w' hSw
      try dsimp only at hSw
      go_simp
      try with_reducible rfl
    try simp only [Act.put, List.getElem_toArray, List.getElem_cons_zero, List.getElem_cons_succ, List.setIfInBounds_toArray, List.set_cons_zero, List.set_cons_succ]
    refine wpAnyH_take (i := 4) (v := ?_) rfl (by kernel_rfl) (by kernel_rfl) (by kernel_rfl) (fun _ _ _ h => h) (Or.inl ⟨by rfl, ?_⟩) (by assumption) ?_
    rotate_left
    · intro w' hSw
      try dsimp only at hSw
      go_simp
      try with_reducible rfl
    try simp only [Act.put, List.getElem_toArray, List.getElem_cons_zero, List.getElem_cons_succ, List.setIfInBounds_toArray, List.set_cons_zero, List.set_cons_succ]
    refine wpAnyH_take (i := 5) (v := ?_) rfl (by kernel_rfl) (by kernel_rfl) (by kernel_rfl) (fun _ _ _ h => h) (Or.inl ⟨by rfl, ?_⟩) (by assumption) ?_
    rotate_left
    · intro w' hSw
      try dsimp only at hSw
      go_simp
      try with_reducible rfl
    try simp only [Act.put, List.getElem_toArray, List.getElem_cons_zero, List.getElem_cons_succ, List.setIfInBounds_toArray, List.set_cons_zero, List.set_cons_succ]
    refine wpAnyH_take (i := 6) (v := ?_) rfl (by kernel_rfl) (by kernel_rfl) (by kernel_rfl) (fun _ _ _ h => h) (Or.inl ⟨by rfl, ?_⟩) (by assumption) ?_
    rotate_left
    · intro w' hSw
      try dsimp only at hSw
      go_simp
      try with_reducible rfl
    try simp only [Act.put, List.getElem_toArray, List.getElem_cons_zero, List.getElem_cons_succ, List.setIfInBounds_toArray, List.set_cons_zero, List.set_cons_succ]
    refine wpAnyH_take (i := 7) (v := ?_) rfl (by kernel_rfl) (by kernel_rfl) (by kernel_rfl) (fun _ _ _ h => h) (Or.inl ⟨by rfl, ?_⟩) (by assumption) ?_
    rotate_left
    · intro w' hSw
      try dsimp only at hSw
      go_simp
      try with_reducible rfl
    try simp only [Act.put, List.getElem_toArray, List.getElem_cons_zero, List.getElem_cons_succ, List.setIfInBounds_toArray, List.set_cons_zero, List.set_cons_succ]
    refine wpAnyH_take (i := 8) (v := ?_) rfl (by kernel_rfl) (by kernel_rfl) (by kernel_rfl) (fun _ _ _ h => h) (Or.inl ⟨by rfl, ?_⟩) (by assumption) ?_
    rotate_left
    · intro w' hSw
      try dsimp only at hSw
      go_simp
      try with_reducible rfl
    try simp only [Act.put, List.getElem_toArray, List.getElem_cons_zero, List.getElem_cons_succ, List.setIfInBounds_toArray, List.set_cons_zero, List.set_cons_succ]
    refine wpAnyH_take (i := 9) (v := ?_) rfl (by kernel_rfl) (by kernel_rfl) (by kernel_rfl) (fun _ _ _ h => h) (Or.inl ⟨by rfl, ?_⟩) (by assumption) ?_
    rotate_left
    · intro w' hSw
      try dsimp only at hSw
      go_simp
      try with_reducible rfl
    try simp only [Act.put, List.getElem_toArray, List.getElem_cons_zero, List.getElem_cons_succ, List.setIfInBounds_toArray, List.set_cons_zero, List.set_cons_succ]
    refine wpAnyH_take (i := 11) (v := ?_) rfl (by kernel_rfl) (by kernel_rfl) (by kernel_rfl) (fun _ _ _ h => h) (Or.inl ⟨by rfl, ?_⟩) (by assumption) ?_
    rotate_left
    · intro w' hSw
      try dsimp only at hSw
      go_simp
      try with_reducible rfl
    try simp only [Act.put, List.getElem_toArray, List.getElem_cons_zero, List.getElem_cons_succ, List.setIfInBounds_toArray, List.set_cons_zero, List.set_cons_succ]
    refine wpAnyH_take (i := 12) (v := ?_) rfl (by kernel_rfl) (by kernel_rfl) (by kernel_rfl) (fun _ _ _ h => h) (Or.inl ⟨by rfl, ?_⟩) (by assumption) ?_
    rotate_left
    · intro w' hSw
      try dsimp only at hSw
      go_simp
      try with_reducible rfl
    try simp only [Act.put, List.getElem_toArray, List.getElem_cons_zero, List.getElem_cons_succ, List.setIfInBounds_toArray, List.set_cons_zero, List.set_cons_succ]
    refine wpAnyH_take (i := 13) (v := ?_) rfl (by kernel_rfl) (by kernel_rfl) (by kernel_rfl) (fun _ _ _ h => h) (Or.inl ⟨by rfl, ?_⟩) (by assumption) ?_
    rotate_left
    · intro w' hSw
      try dsimp only at hSw
      go_simp
      try with_reducible rfl
    try simp only [Act.put, List.getElem_toArray, List.getElem_cons_zero, List.getElem_cons_succ, List.setIfInBounds_toArray, List.set_cons_zero, List.set_cons_succ]
    refine wpAnyH_take (i := 14) (v := ?_) rfl (by kernel_rfl) (by kernel_rfl) (by kernel_rfl) (fun _ _ _ h => h) (Or.inl ⟨by rfl, ?_⟩) (by assumption) ?_
    rotate_left
    · intro w' hSw
      try dsimp only at hSw
      go_simp
      try with_reducible rfl
    try simp only [Act.put, List.getElem_toArray, List.getElem_cons_zero, List.getElem_cons_succ, List.setIfInBounds_toArray, List.set_cons_zero, List.set_cons_succ]
    refine wpAnyH_take (i := 15) (v := ?_) rfl (by kernel_rfl) (by kernel_rfl) (by kernel_rfl) (fun _ _ _ h => h) (Or.inl ⟨by rfl, ?_⟩) (by assumption) ?_
    rotate_left
    · intro w' hSw
      try dsimp only at hSw
      go_simp
      try with_reducible rfl
    try simp only [Act.put, List.getElem_toArray, List.getElem_cons_zero, List.getElem_cons_succ, List.setIfInBounds_toArray, List.set_cons_zero, List.set_cons_succ]
    refine wpAnyH_take (i := 16) (v := ?_) rfl (by kernel_rfl) (by kernel_rfl) (by kernel_rfl) (fun _ _ _ h => h) (Or.inl ⟨by rfl, ?_⟩) (by assumption) ?_
    rotate_left
    · intro w' hSw
      try dsimp only at hSw
      go_simp
      try with_reducible rfl
    try simp only [Act.put, List.getElem_toArray, List.getElem_cons_zero, List.getElem_cons_succ, List.setIfInBounds_toArray, List.set_cons_zero, List.set_cons_succ]
    refine wpAnyH_take (i := 17) (v := ?_) rfl (by kernel_rfl) (by kernel_rfl) (by kernel_rfl) (fun _ _ _ h => h) (Or.inl ⟨by rfl, ?_⟩) (by assumption) ?_
    rotate_left
    · intro w' hSw
      try dsimp only at hSw
      go_simp
      try with_reducible rfl
    try simp only [Act.put, List.getElem_toArray, List.getElem_cons_zero, List.getElem_cons_succ, List.setIfInBounds_toArray, List.set_cons_zero, List.set_cons_succ]
    refine wpAnyH_ready (rs := [10]) (by kernel_rfl) (by simp) ?_
    refine AllReadyH.cons rfl (fun K hK => ?_) AllReadyH.nil
    go_simp
    refine hK.out _ _ ⟨b0, b10, b7, bg⟩ (fun hHeld => ?_)
    clear hK K
    try simp only [Act.put, List.getElem_toArray, List.getElem_cons_zero, List.getElem_cons_succ, List.setIfInBounds_toArray, List.set_cons_zero, List.set_cons_succ]
    refine wpAnyH_ready (rs := [18]) (by kernel_rfl) (by simp) ?_
    refine AllReadyH.cons rfl (fun K hK => ?_) AllReadyH.nil
    refine step_appL rfl (.tmp 53) (.tmp 60) 113 rfl 0 100 (.pointer none) 8 Tryz.underlying113 info100 (by decide) rfl (.slice ga0 k0 c0) B.gs.length (B.gs.map pt) rfl HRW.out ib n cap' (((List.range n).map (A.σ g)).map pt) (by simp) rfl HNW.out (pt_one _) (by omega) (by omega) (Nat.zero_le _) ?_
    intro v' w8 r8 g8 o8
    obtain ⟨gw, nw, cw, rfl⟩ := row_sl r8
    have G8 := Hid.mk g8
    have R8 := Hid.mk r8
    have O8 := Hid.mk o8
    have own8 : ∀ {b i : Nat} {u : Value}, W.drew.cell? ⟨b, i, none⟩ = some u → γ1 b ≠ .ko → w8.cell? ⟨b, i, none⟩ = some u := fun c t => (World.cell?_of_block (g8.block _ (World.block_lt_of_cell? _ _ c) (fun e => t (HK1.out.rowT _ (by simp only [e0]; exact e.symm))))).trans c
    have d0 := own8 b0 (by rw [HX1.out]; nofun)
    have d10 := own8 b10 (by rw [HQ1.out.tag]; nofun)
    have d7 := own8 b7 (by rw [HQ1.out.tag]; nofun)
    have dg := own8 bg (by rw [HF1.out.tg l1 t1]; nofun)
    have dk0 := own8 bk0 (by rw [HK1.out.tag]; nofun)
    have zk0 : w8.frozen? ⟨B.kb, 0, none⟩ = false := Joins.unfrozen_of_block ((g8.block _ (lt_of HK1.out.box) (fun e => by have := HK1.out.rowT _ (by simp only [e0]; exact e.symm); rw [HK1.out.tag] at this; cases this)).trans HK1.out.box) 0
    clear r8 g8 o8
    refine hK.out _ _ ⟨d0, d10, d7, dg⟩ (fun hHeld => ?_)
    clear hK K
    try simp only [Act.put, List.getElem_toArray, List.getElem_cons_zero, List.getElem_cons_succ, List.setIfInBounds_toArray, List.set_cons_zero, List.set_cons_succ]
    refine wpAnyH_take (i := 19) (v := ?_) rfl (by kernel_rfl) (by kernel_rfl) (by kernel_rfl) (fun _ _ _ h => h) (Or.inl ⟨by rfl, ?_⟩) (by assumption) ?_
    rotate_left
    · intro w' hSw
      try dsimp only at hSw
      go_simp
      try with_reducible rfl
    try simp only [Act.put, List.getElem_toArray, List.getElem_cons_zero, List.getElem_cons_succ, List.setIfInBounds_toArray, List.set_cons_zero, List.set_cons_succ]
    refine wpAnyH_take (i := 20) (v := ?_) rfl (by kernel_rfl) (by kernel_rfl) (by kernel_rfl) (fun _ _ _ h => h) (Or.inl ⟨by rfl, ?_⟩) (by assumption) ?_
    rotate_left
    · intro w' hSw
      try dsimp only at hSw
      go_simp
      try with_reducible rfl
    try simp only [Act.put, List.getElem_toArray, List.getElem_cons_zero, List.getElem_cons_succ, List.setIfInBounds_toArray, List.set_cons_zero, List.set_cons_succ]
    obtain ⟨γ2, t2', F2, K2⟩ := HK1.out.more (σs := (List.range n).map (A.σ g)) (Ss := (List.range n).map (H.sp g)) (by simp) (by simpa using R8.out) (by simp only [e0]; exact G8.out) (by simp only [e0]; exact O8.out) HSP.out HND.out HFI.out
    have f0 := cell_fr F2 b0 (by rw [HX1.out]; nofun)
    have f10 := cell_fr F2 b10 (by rw [HQ1.out.tag]; nofun)
    have f7 := cell_fr F2 b7 (by rw [HQ1.out.tag]; nofun)
    have fg := cell_fr F2 bg (by rw [HF1.out.tg l1 t1]; nofun)
    refine wpAnyH_ready (rs := [21]) (by kernel_rfl) (by simp) ?_
    refine AllReadyH.cons rfl (fun K hK => ?_) AllReadyH.nil
    go_simp
    refine hK.out _ _ ⟨f0, f10, f7, fg⟩ (fun hHeld => ?_)
    clear hK K
    try simp only [Act.put, List.getElem_toArray, List.getElem_cons_zero, List.getElem_cons_succ, List.setIfInBounds_toArray, List.set_cons_zero, List.set_cons_succ]
    refine wpAnyH_done (by kernel_rfl) (NoPanic.normal ?_) _
    have Q2 := HQ1.out.fr F2 (fun u e => e.elim (fun h => .inr (.inl h)) (fun h => .inr (.inr (.inl h))))
    have HK2 := Hid.mk K2
    have HQ2 := Hid.mk Q2
    have HF2 := Hid.mk F2
    have X2 := Hid.mk (F2.tg (World.block_lt_of_cell? _ _ b0) HX1.out)
    have D2 : Hid (∀ D ∈ ds, γ2 D = .x 1 ∧ (w8.setCell ⟨B.kb, 0, none⟩ (.slice gw nw cw)).heap[D]? = some (.deferred (some []))) := ⟨fun D hD => by
      have k1 : W.drew.heap[D]? = some (.deferred (some [])) := (HD.out.2 D hD).2
      exact ⟨F2.tg (lt_of k1) (HD1.out D hD), F2.at_ k1 (by rw [HD1.out D hD]; nofun)⟩⟩
    clear F2 Q2 K2 d0 d10 d7 dg dk0 zk0 own8 f10
    have HT2 := Hid.mk t2'
    have HW9 : Hid (W.heap.size ≤ (w8.setCell ⟨B.kb, 0, none⟩ (.slice gw nw cw)).heap.size) := ⟨HF2.out.size⟩
    generalize w8.setCell ⟨B.kb, 0, none⟩ (.slice gw nw cw) = W9 at *
    obtain ⟨csO, hOB⟩ := own_kind HQ2.out.row.out (k := ob) (by show A.ov.ownBlock = _; rw [eo]; rfl)
    have HOB := Hid.mk hOB
    clear hOB
    have Q2d := HQ2.out.later (below_drew1 W9)
    have SN := spaces_new (w := W9.drew) (h := h) (p := A.p) (a := A.a) Q2d.cg Q2d.cs Q2d.cp Q2d.ca HQH.out.ok g hg
    clear Q2d
    gi_wp2
    refine wpIn_wide.2 ?_
    refine wp_region_noPanic ?_
    refine wp_region_held_drew (S := (fun wx => wx.cell? ⟨w.heap.size, 0, none⟩ = some (pt h) ∧ wx.cell? ⟨h, 7, none⟩ = some (.slice (some ⟨ob, 0, none⟩) H.c.g cap))) (by kernel_rfl) ⟨f0, f7⟩ (fun hHeld => ?_)
    refine wpAnyH_take (i := 0) (v := ?_) rfl (by kernel_rfl) (by kernel_rfl) (by kernel_rfl) (fun _ _ _ h => h) (Or.inl ⟨by rfl, ?_⟩) (by assumption) ?_
    rotate_left
    · intro w' hSw
      try dsimp only at hSw
      go_simp
      try with_reducible rfl
    try simp only [Act.put, List.getElem_toArray, List.getElem_cons_zero, List.getElem_cons_succ, List.setIfInBounds_toArray, List.set_cons_zero, List.set_cons_succ]
    refine wpAnyH_take (i := 1) (v := ?_) rfl (by kernel_rfl) (by kernel_rfl) (by kernel_rfl) (fun _ _ _ h => h) (Or.inl ⟨by rfl, ?_⟩) (by assumption) ?_
    rotate_left
    · intro w' hSw
      try dsimp only at hSw
      go_simp
      try with_reducible rfl
    try simp only [Act.put, List.getElem_toArray, List.getElem_cons_zero, List.getElem_cons_succ, List.setIfInBounds_toArray, List.set_cons_zero, List.set_cons_succ]
    refine wpAnyH_take (i := 2) (v := ?_) rfl (by kernel_rfl) (by kernel_rfl) (by kernel_rfl) (fun _ _ _ h => h) (Or.inl ⟨by rfl, ?_⟩) (by assumption) ?_
    rotate_left
    · intro w' hSw
      try dsimp only at hSw
      go_simp
      try with_reducible rfl
    try simp only [Act.put, List.getElem_toArray, List.getElem_cons_zero, List.getElem_cons_succ, List.setIfInBounds_toArray, List.set_cons_zero, List.set_cons_succ]
    refine wpAnyH_take (i := 3) (v := ?_) rfl (by kernel_rfl) (by kernel_rfl) (by kernel_rfl) (fun _ _ _ h => h) (Or.inl ⟨by rfl, ?_⟩) (by assumption) ?_
    rotate_left
    · intro w' hSw
      try dsimp only at hSw
      go_simp
      try with_reducible rfl
    try simp only [Act.put, List.getElem_toArray, List.getElem_cons_zero, List.getElem_cons_succ, List.setIfInBounds_toArray, List.set_cons_zero, List.set_cons_succ]
    refine wpAnyH_take (i := 4) (v := ?_) rfl (by kernel_rfl) (by kernel_rfl) (by kernel_rfl) (fun _ _ _ h => h) (Or.inl ⟨by rfl, ?_⟩) (by assumption) ?_
    rotate_left
    · intro w' hSw
      try dsimp only at hSw
      go_simp
      try with_reducible rfl
    try simp only [Act.put, List.getElem_toArray, List.getElem_cons_zero, List.getElem_cons_succ, List.setIfInBounds_toArray, List.set_cons_zero, List.set_cons_succ]
    refine wpAnyH_take (i := 5) (v := ?_) rfl (by kernel_rfl) (by kernel_rfl) (by kernel_rfl) (fun _ _ _ h => h) (Or.inl ⟨by rfl, ?_⟩) (by assumption) ?_
    rotate_left
    · intro w' hSw
      try dsimp only at hSw
      go_simp
      try with_reducible rfl
    try simp only [Act.put, List.getElem_toArray, List.getElem_cons_zero, List.getElem_cons_succ, List.setIfInBounds_toArray, List.set_cons_zero, List.set_cons_succ]
    refine wpAnyH_take (i := 6) (v := ?_) rfl (by kernel_rfl) (by kernel_rfl) (by kernel_rfl) (fun _ _ _ h => h) (Or.inl ⟨by rfl, ?_⟩) (by assumption) ?_
    rotate_left
    · intro w' hSw
      try dsimp only at hSw
      go_simp
      try with_reducible rfl
    try simp only [Act.put, List.getElem_toArray, List.getElem_cons_zero, List.getElem_cons_succ, List.setIfInBounds_toArray, List.set_cons_zero, List.set_cons_succ]
    refine wpAnyH_ready (rs := [7]) (by kernel_rfl) (by simp) ?_
    refine AllReadyH.cons rfl (fun K hK => ?_) AllReadyH.nil
    go_simp
    (go_at_call 92; refine SN.mono ?_; rintro e w10 ⟨v1, σ1, m1, rfl, E1⟩)
    obtain ⟨gv, nv, cv, rfl⟩ := row_sl E1.row
    have h0 := (E1.bel.cell (p := ⟨w.heap.size, 0, none⟩) (World.block_lt_of_cell? _ _ f0)).trans f0
    have h7 := (E1.bel.cell (p := ⟨h, 7, none⟩) (World.block_lt_of_cell? _ _ f7)).trans f7
    have hg7 := (E1.bel.cell (p := ⟨ob, g, none⟩) (World.block_lt_of_cell? _ _ fg)).trans fg
    have zob : w10.frozen? ⟨ob, g, none⟩ = false := Joins.unfrozen_of_block ((E1.bel.block ob (lt_of HOB.out)).trans HOB.out) g
    have E1' : Ek W9 w10 A.p A.a _ (H.c.n g) σ1 m1 := ⟨E1.row, E1.sps, E1.news, E1.injs, E1.injm, (below_drew1 W9).trans E1.bel⟩
    have HE1 := Hid.mk E1'
    obtain ⟨γ3, t3', F3, Q3⟩ := HQ2.out.re hg E1' eo
    have HF3 := Hid.mk F3
    have HQ3 := Hid.mk Q3
    have i0 := cell_fr F3 f0 (by rw [X2.out]; nofun)
    have i7 := cell_fr F3 f7 (by rw [HQ2.out.tag]; nofun)
    clear E1 E1' Q3 F3
    try go_wp2_with fail
    refine hK.out _ _ ⟨h0, h7⟩ (fun hHeld => ?_)
    clear hK K
    try simp only [Act.put, List.getElem_toArray, List.getElem_cons_zero, List.getElem_cons_succ, List.setIfInBounds_toArray, List.set_cons_zero, List.set_cons_succ]
    refine wpAnyH_take (i := 8) (v := ?_) rfl (by kernel_rfl) (by kernel_rfl) (by kernel_rfl) (fun _ _ _ h => h) (Or.inl ⟨by rfl, ?_⟩) (by assumption) ?_
    rotate_left
    · intro w' hSw
      try dsimp only at hSw
      go_simp
      try with_reducible rfl
    try simp only [Act.put, List.getElem_toArray, List.getElem_cons_zero, List.getElem_cons_succ, List.setIfInBounds_toArray, List.set_cons_zero, List.set_cons_succ]
    refine wpAnyH_ready (rs := [9]) (by kernel_rfl) (by simp) ?_
    refine AllReadyH.cons rfl (fun K hK => ?_) AllReadyH.nil
    go_simp
    refine hK.out _ _ ⟨i0, i7⟩ (fun hHeld => ?_)
    clear hK K
    try simp only [Act.put, List.getElem_toArray, List.getElem_cons_zero, List.getElem_cons_succ, List.setIfInBounds_toArray, List.set_cons_zero, List.set_cons_succ]
    refine wpAnyH_done (by kernel_rfl) (NoPanic.normal ?_) _
    have HT3 := Hid.mk t3'
    have j9 : (w10.setCell ⟨ob, g, none⟩ (.slice gv nv cv)).cell? ⟨h, 9, none⟩ = some (pt A.l) := HQ3.out.cl
    have D3 : Hid (∀ D ∈ ds, γ3 D = .x 1 ∧ (w10.setCell ⟨ob, g, none⟩ (.slice gv nv cv)).heap[D]? = some (.deferred (some []))) := ⟨fun D hD => by
      have k1 := D2.out D hD
      exact ⟨HF3.out.tg (lt_of k1.2) k1.1, HF3.out.at_ k1.2 (by rw [k1.1]; nofun)⟩⟩
    have K3 := HK2.out.fr' HF3.out nofun nofun nofun nofun nofun nofun nofun (fun _ _ => ⟨nofun, nofun, nofun⟩)
    have TK := take_li HQ3.out.li g
    have HK3 := Hid.mk K3
    have SN1 := Hid.mk HE1.out.news
    clear K3 f0 f7 fg h0 h7 hg7 zob i7 SN
    generalize w10.setCell ⟨ob, g, none⟩ (.slice gv nv cv) = W11 at *
    gi_wp2_with (refine ⟨trivial, ?_⟩; gi_at_call 130; refine (callsIn_wide.2 TK).mono ?_; rintro e w12 ⟨v, rfl, γ4, L4, F4⟩)
    have Q4 := HQ3.out.lists L4 (F4.mono (fun t e => .inr e))
    have K4 := HK3.out.fr' F4 nofun nofun nofun nofun nofun nofun nofun (fun _ _ => ⟨nofun, nofun, nofun⟩)
    have D4 : ∀ D ∈ ds, γ4 D = .x 1 ∧ w12.heap[D]? = some (.deferred (some [])) := fun D hD => by
      have k1 := D3.out D hD
      exact ⟨F4.tg (lt_of k1.2) k1.1, F4.at_ k1.2 (by rw [k1.1]; nofun)⟩
    refine leaves_marks ds w12 (fun D hD => (D4 D hD).2) HD.out.1 (fun W' p1 p2 p3 p4 p5 => ⟨_, results_none rfl _ _ _, rfl, γ4, ?_⟩)
    have F5 : Fr (fun t => t = .x 1) w12 W' γ4 γ4 := ⟨p1, p2, p3, by omega, fun _ _ => rfl, fun k hk hx => p5 k (fun hm => hx (D4 k hm).1)⟩
    have Q5 := Q4.fr F5 (fun u e => .inl ⟨1, e⟩)
    have K5 := K4.fr' F5 nofun nofun nofun nofun nofun nofun nofun (fun _ _ => ⟨nofun, nofun, nofun⟩)
    have FW : Fr hTn w w12 γ γ4 := HF00.out.trans ((HF1.out.mono (fun t e => by rcases e with rfl | rfl <;> (rintro (e | ⟨n, e⟩) <;> cases e))).trans ((Fr.later hTn _ (below_drew1 W)).trans ((HF2.out.mono (fun t e => by rcases e with rfl | rfl <;> (rintro (e | ⟨n, e⟩) <;> cases e))).trans ((HF3.out.mono (fun t e => by subst e; rintro (e | ⟨n, e⟩) <;> cases e)).trans (F4.mono (fun t e => by subst e; rintro (e | ⟨n, e⟩) <;> cases e))))))
    have hsz := HS.out.chg.size
    have hs9 := HW9.out
    have gsl : ∀ x ∈ B.gs, x < (w.alloc (.cells #[pt h] 38)).heap.size := fun x hx => by
      obtain ⟨i, hi, rfl⟩ := List.getElem_of_mem hx
      exact (HQK.out.sps i hi).lt
    have σl : ∀ g' s, g' < H.c.g → s < H.c.n g' → A.σ g' s < (w.alloc (.cells #[pt h] 38)).heap.size := fun g' s a b => (HQH.out.sps g' s a b).lt
    subst hn
    refine ⟨.slice gv nv cv, σ1, .slice gw nw cw, ⟨Q5, K5, ?_⟩, ⟨p1.trans FW.os, p2.trans FW.tape, p3.trans FW.output, by have := FW.size; omega, FW.tag, fun k hk hx => (p5 k (fun hm => ?_)).trans (FW.block k hk hx)⟩⟩
    · intro g' s hg2 hs2 hm
      by_cases e : g' = g
      · subst e
        simp only [Ad.re, if_true] at hm
        have n1 := (SN1.out s hs2).1
        rcases List.mem_append.1 hm with r | r
        · have := gsl _ r; omega
        · obtain ⟨t, ht, e2⟩ := List.mem_map.1 r
          have := σl g' t hg2 (List.mem_range.1 ht)
          omega
      · simp only [Ad.re, e, if_false] at hm
        rcases List.mem_append.1 hm with r | r
        · exact HAP.out g' s hg2 hs2 r
        · obtain ⟨t, ht, e2⟩ := List.mem_map.1 r
          exact e (HQH.out.inj g t g' s hg (List.mem_range.1 ht) hg2 hs2 e2).1.symm
    · have := (HD.out.2 k hm).1
      simp at this
      omega
end Go.Proofs.YtbdoekffadmejaaGreatDoor
