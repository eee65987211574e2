/- Package lazy: the things of atoms. -/
import Derived.Test.YtbajpejnnfacbaaGreatDoorLzp
import Derived.Laws.MakeOwn
import Derived.Test.YtbajpejnnfacbaaGreatDoorLxd
import Derived.Deep.RegionLaw
import Derived.Deep.AppendLies
namespace Go.Proofs.YtbajpejnnfacbaaGreatDoor.Lz
open Go.RowKit
set_option linter.unusedVariables false
set_option linter.unusedSimpArgs false

/-- a list of things that was made just now, not tagged yet -/
structure NewRow (w : World) (G : Gm) (g : Nat) (ids : List Nat) : Prop where
  free : G g = none
  blk : ∃ c, w.heap[g]? = some (.cells c 78 (0, 0)) ∧ c.size = ids.length ∧ ∀ (k : Nat) i, ids[k]? = some i → ∃ v, c[k]? = some v ∧ pT G i v
theorem info78 : (Tryz.prog.info? 78).map (fun i => (i.zero, i.size, i.bytes)) = some (some (.pointer none), 1, 8) := by kernel_rfl
theorem am4_len (a : Am) : (am4 a).length = 4 := by cases a <;> rfl
theorem amC_len : ∀ l : List Am, (amC l).length = l.length * 4
  | [] => rfl
  | a :: r => by rw [amC, List.length_append, am4_len, amC_len r, List.length_cons]; omega
theorem amC_get : ∀ (l : List Am) (k : Nat) (h : k < l.length) (j : Nat) (u : Value), (am4 (l[k]'h))[j]? = some u → (amC l)[k * 4 + j]? = some u
  | [], k, h, j, u, hu => absurd h (Nat.not_lt_zero k)
  | a :: r, 0, h, j, u, hu => by
    have hj := (List.getElem?_eq_some_iff.1 hu).1
    simp only [List.getElem_cons_zero] at hu hj
    rw [amC, Nat.zero_mul, Nat.zero_add, List.getElem?_append_left hj]
    exact hu
  | a :: r, k + 1, h, j, u, hu => by
    rw [amC, List.getElem?_append_right (by rw [am4_len]; omega), am4_len, show (k + 1) * 4 + j - 4 = k * 4 + j by omega]
    exact amC_get r k (by simpa using h) j u (by simpa using hu)
theorem atomsP_snoc (e : Env) : ∀ (l : List Am) (a : Am) (th : List T), atomsP e (l ++ [a]) th = ((atomsP e l th).1 ++ (atomsP e [a] (atomsP e l th).2).1, (atomsP e [a] (atomsP e l th).2).2)
  | [], a, th => by simp [atomsP]
  | .name p :: r, a, th => by
    have ih := atomsP_snoc e r a th
    simp only [List.cons_append, atomsP, ih]
  | .num n :: r, a, th => by
    have ih := atomsP_snoc e r a (th ++ [.num n])
    simp only [List.cons_append, atomsP, ih]
section
variable {w w' : World} {G : Gm} {th : List T} {rows : List (List Nat)}
/-- the list so far: n places, of which some are filled -/
structure PartRow (w : World) (G : Gm) (g n : Nat) (ids : List Nat) : Prop where
  free : G g = none
  blk : ∃ c, w.heap[g]? = some (.cells c 78 (0, 0)) ∧ c.size = n ∧ ∀ (k : Nat) i, ids[k]? = some i → ∃ v, c[k]? = some v ∧ pT G i v
theorem PartRow.made (w : World) (G : Gm) (n : Nat) (h : G w.heap.size = none) (c : Array Value) (hc : c.size = n) : PartRow (w.alloc (.cells c 78)) G w.heap.size n [] := ⟨h, c, heap_alloc_new w _, hc, fun k i hk => by simp at hk⟩
theorem PartRow.full {g n : Nat} {ids : List Nat} (h : PartRow w G g n ids) (hn : n = ids.length) : NewRow w G g ids := ⟨h.free, by obtain ⟨c, a, b, d⟩ := h.blk; exact ⟨c, a, b.trans hn, d⟩⟩
set_option maxRecDepth 100000 in
set_option maxHeartbeats 4000000 in
theorem latoms_any (h : Rep w G th rows) {b : Nat} {e : Env} (hb : G b = some (.env e)) (he : okE th.length e) (l : List Am) {v : Value} (hv : pAtoms G l v) (ok : ∀ a ∈ l, okAm (shE e) a) :
    Calls Tryz.prog 68 #[ptr b, v] w fun r w' => ∃ g cap G', r = .returned (.slice (some ⟨g, 0, none⟩) l.length cap) ∧ l.length ≤ cap ∧ w.heap.size ≤ g ∧ NewRow w' G' g (atomsP e l th).1 ∧ Fx G G' w w' ∧ Rep w' G' (atomsP e l th).2 rows := by
  obtain ⟨i0, hi0⟩ : ∃ i, Tryz.prog.info? 78 = some i := by
    have := info78
    cases q : Tryz.prog.info? 78 with
    | none => rw [q] at this; cases this
    | some i => exact ⟨i, rfl⟩
  have hz : i0.zero = some (.pointer none) ∧ i0.size = 1 ∧ i0.bytes = 8 := by
    have := info78
    rw [hi0] at this
    simpa using this
  obtain ⟨ga, cap, rfl, hcap, h9, hg⟩ := hv
  obtain ⟨n, hn⟩ : ∃ n, l.length = n := ⟨_, rfl⟩
  have mk := run_make (P := Tryz.prog) w 84 78 i0 _ Tryz.underlying84 hi0 hz.1 .i64 .i64 (n : Int) n (by omega) (Int.le_refl _) (by rw [hz.2.2]; omega) (by omega)
  rw [hz.2.1] at mk
  simp only [Int.toNat_natCast, Nat.mul_one] at mk
  obtain ⟨c0, hc0⟩ : ∃ c, c = madeCells (Value.pointer none).cells n := ⟨_, rfl⟩
  have sz0 : c0.size = n := by rw [hc0]; exact size_madeCells _ _
  rw [← hc0] at mk
  clear hc0 hz hi0 i0
  have P0 := PartRow.made w G n (h.free (Nat.le_refl _)) c0 sz0
  have R0 := h.below (Joins.below_alloc1 w (.cells c0 78))
  have F0 : Fx G G w (w.alloc (.cells c0 78)) := Fx.of_below (Joins.below_alloc1 w _)
  have HN := Hid.mk hn
  have HG := Hid.mk hg
  have HH := Hid.mk (And.intro h (And.intro hb (And.intro he ok)))
  have H0 := Hid.mk (And.intro P0 (And.intro F0 R0))
  rw [hn] at hcap h9
  clear hn hg h hb he ok P0 R0 F0
  rw [HN.out]
  go_enter Tryz.func68, Tryz.ntmps68
  go_wp2
  go_loopw [13] (fun c wr => ∃ i : Nat, c = .int .i64 i ∧ i ≤ n ∧ ∃ Gr, Hid (PartRow wr Gr w.heap.size n (atomsP e (l.take i) th).1 ∧ Fx G Gr w wr ∧ Rep wr Gr (atomsP e (l.take i) th).2 rows)) (fun c _ => n - (intOf c).toNat)
  case atStart => exact ⟨0, rfl, Nat.zero_le _, G, by rw [List.take_zero]; exact H0⟩
  case round =>
    obtain ⟨i, rfl, hi, Gr, HR⟩ := hrel
    by_cases hlt : i < n
    · have il : i < l.length := by rw [HN.out]; exact hlt
      obtain ⟨ga0, rfl, hga⟩ := HG.out (by omega)
      obtain ⟨_, hat⟩ := HR.out.2.2.cont ga0 _ (HR.out.2.1.le _ _ hga)
      have hin : l[i] ∈ l := List.getElem_mem il
      have okA := HH.out.2.2.2 _ hin
      have cell : ∀ (j : Nat) u, (am4 l[i])[j]? = some u → wr.cell? ⟨ga0, i * 4 + j, none⟩ = some u := fun j u hj => hat _ _ (amC_get l i il j u hj)
      have sn : l.take (i + 1) = l.take i ++ [l[i]] := List.take_succ_eq_append_getElem il
      have ap := atomsP_snoc e (l.take i) l[i] th
      rw [← sn] at ap
      have HAP := Hid.mk ap
      have idl : (atomsP e (l.take i) th).1.length = i := by rw [atomsP_len, List.length_take, Nat.min_eq_left (by omega)]
      have thl : th.length ≤ (atomsP e (l.take i) th).2.length := by
        obtain ⟨l', e1, _⟩ := atomsP_th e (shE e) (l.take i) th (fun a ha => HH.out.2.2.2 a (List.mem_of_mem_take ha))
        rw [e1]; simp
      have HEL := Hid.mk (And.intro idl thl)
      obtain ⟨cr, XR, zR, tR⟩ := HR.out.1.blk
      have hltI : (i : Int) < n := by omega
      have hcI : (i : Int) < (cr.size : Int) := by rw [zR]; exact hltI
      generalize (atomsP e (l.take i) th).1 = ids at *
      generalize (atomsP e (l.take i) th).2 = thr at *
      have HXR := Hid.mk (And.intro XR (And.intro zR tR))
      generalize l[i] = a at *
      cases a with
      | name p =>
        have d0 := cell 0 _ rfl
        have d1 := cell 1 _ rfl
        have d2 := cell 2 _ rfl
        have d3 := cell 3 _ rfl
        rw [Nat.add_zero] at d0
        obtain ⟨ui, hui⟩ : ∃ u, cr[i]? = some u := ⟨_, Array.getElem?_eq_getElem (by omega)⟩
        obtain ⟨o1, ho1⟩ : ∃ o, Obj.cells #[.bool true, .int .i64 p.lev, .int .i64 p.idx, .int .i64 0] 170 = o := ⟨_, rfl⟩
        have K1 := Joins.below_alloc1 wr o1
        have NA := at_any (HR.out.2.2.below K1) (HR.out.2.1.le _ _ HH.out.2.1) p okA HH.out.2.2.1.2.2
        have HK1 := Hid.mk K1
        have HUI := Hid.mk hui
        clear cell hat okA sn ap idl thl XR zR tR hin K1 hui
        subst ho1
        go_wp2_with (go_at_call 69; refine NA.mono ?_; rintro r w8 ⟨⟨v8, rfl, P8⟩, B8⟩; obtain ⟨bv, rfl, gv⟩ := P8; have HX8 := Hid.mk (And.intro (later' HXR.out.1 (HK1.out.trans (Joins.below_le B8 HK1.out.size))) (HK1.out.trans (Joins.below_le B8 HK1.out.size))); have HGV := Hid.mk gv; have k0 : w8.cell? ⟨w.heap.size, i, none⟩ = some ui := (Joins.cell_of_block HX8.out.1 i).trans HUI.out; have k1 : w8.frozen? ⟨w.heap.size, i, none⟩ = false := Joins.unfrozen_of_block HX8.out.1 i; clear B8 gv)
        refine ⟨⟨i + 1, by go_num, by omega, Gr, ?_⟩, by simp [intOf]; omega⟩
        refine ⟨?_⟩
        rw [HAP.out]
        obtain ⟨PR, FR, RR⟩ := HR.out
        obtain ⟨idl, thl⟩ := HEL.out
        have gsz : w.heap.size < wr.heap.size := lt_of_block HXR.out.1
        have nb : ∀ x, x ≠ w.heap.size → (w8.setCell ⟨w.heap.size, i, none⟩ (ptr bv)).heap[x]? = w8.heap[x]? := fun x hx => setCell_block _ _ _ _ hx
        refine ⟨⟨PR.free, ?_⟩, ?_, ?_⟩
        · refine ⟨_, Joins.block_setCell (i := i) HX8.out.1 _, by simp; exact HXR.out.2.1, fun k u hk => ?_⟩
          simp only [atomsP] at hk
          by_cases q : k = i
          · subst q
            rw [List.getElem?_append_right (by omega), idl, Nat.sub_self] at hk
            simp at hk
            subst hk
            exact ⟨_, by simp [HXR.out.2.1, hlt], _, rfl, HGV.out⟩
          · have ki : k < ids.length := by
              have := (List.getElem?_eq_some_iff.1 hk).1
              simp at this
              omega
            rw [List.getElem?_append_left ki] at hk
            obtain ⟨v, hv, pv⟩ := HXR.out.2.2 k u hk
            exact ⟨v, by rw [Array.getElem?_setIfInBounds_ne (fun e => q e.symm)]; exact hv, pv⟩
        · exact FR.more HX8.out.2.os HX8.out.2.tape HX8.out.2.output (by have := HX8.out.2.size; simp [World.setCell]; omega) (fun x hx => (nb x (by omega)).trans (HX8.out.2.block x (by omega))) (Le.refl _) (fun x hx q => q)
        · exact (RR.below HX8.out.2).later (by simp [World.setCell]) (fun x ty hx => nb x (fun e => by rw [e, PR.free] at hx; cases hx))
      | num m =>
        have d0 := cell 0 _ rfl
        have d1 := cell 1 _ rfl
        have d2 := cell 2 _ rfl
        have d3 := cell 3 _ rfl
        rw [Nat.add_zero] at d0
        obtain ⟨ui, hui⟩ : ∃ u, cr[i]? = some u := ⟨_, Array.getElem?_eq_getElem (by omega)⟩
        obtain ⟨o1, ho1⟩ : ∃ o, Obj.cells #[.bool false, .int .i64 0, .int .i64 0, .int .i64 m] 170 = o := ⟨_, rfl⟩
        have K8 : Below wr.heap.size wr ((wr.alloc o1).alloc (.cells (numC m) 91)) := (Joins.below_alloc1 wr o1).alloc (Joins.below_alloc1 wr o1).size _
        have x8 := later' XR K8
        have k0 : ((wr.alloc o1).alloc (.cells (numC m) 91)).cell? ⟨w.heap.size, i, none⟩ = some ui := (Joins.cell_of_block x8 i).trans hui
        have k1 : ((wr.alloc o1).alloc (.cells (numC m) 91)).frozen? ⟨w.heap.size, i, none⟩ = false := Joins.unfrozen_of_block x8 i
        have NA := numbered_any (wr.alloc o1) m
        have HX8 := Hid.mk (And.intro x8 K8)
        have okm : isI m := okA
        clear cell hat okA sn ap idl thl XR zR tR hin x8 K8 hui
        subst ho1
        go_wp2_with (go_at_call 35; refine NA.mono ?_; rintro r w8 ⟨rfl, rfl⟩)
        obtain ⟨W8, hW8⟩ : ∃ W, W = (wr.alloc (.cells #[.bool false, .int .i64 0, .int .i64 0, .int .i64 m] 170)).alloc (.cells (numC m) 91) := ⟨_, rfl⟩
        have hb8 : W8.heap[wr.heap.size + 1]? = some (.cells (numC m) 91 (0, 0)) := by
          rw [hW8]
          have := heap_alloc_new (wr.alloc (.cells #[.bool false, .int .i64 0, .int .i64 0, .int .i64 m] 170)) (.cells (numC m) 91)
          rwa [World.size_alloc] at this
        rw [← hW8] at HX8 ⊢
        refine ⟨⟨i + 1, by go_num, by omega, Lz.tag Gr (wr.heap.size + 1) (.thing thr.length), ?_⟩, by simp [intOf]; omega⟩
        refine ⟨?_⟩
        rw [HAP.out]
        obtain ⟨PR, FR, RR⟩ := HR.out
        obtain ⟨idl, thl⟩ := HEL.out
        have fr : Gr (wr.heap.size + 1) = none := RR.free (by omega)
        have le := le_tag fr (.thing thr.length)
        have gsz : w.heap.size < wr.heap.size := lt_of_block HXR.out.1
        have s1 : Rep W8 (Lz.tag Gr (wr.heap.size + 1) (.thing thr.length)) (thr ++ [.num m]) rows := (RR.below HX8.out.2).thing fr hb8 rfl
        have nb : ∀ x, x ≠ w.heap.size → (W8.setCell ⟨w.heap.size, i, none⟩ (ptr (wr.heap.size + 1))).heap[x]? = W8.heap[x]? := fun x hx => setCell_block _ _ _ _ hx
        have ft : Lz.tag Gr (wr.heap.size + 1) (.thing thr.length) w.heap.size = none := by rw [tag_ne _ _ (by omega)]; exact PR.free
        refine ⟨⟨ft, ?_⟩, ?_, ?_⟩
        · refine ⟨_, Joins.block_setCell (i := i) HX8.out.1 _, by simp; exact HXR.out.2.1, fun k u hk => ?_⟩
          simp only [atomsP] at hk
          by_cases q : k = i
          · subst q
            rw [List.getElem?_append_right (by omega), idl, Nat.sub_self] at hk
            simp at hk
            subst hk
            exact ⟨_, by simp [HXR.out.2.1, hlt], _, rfl, tag_self _ _ _⟩
          · have ki : k < ids.length := by
              have := (List.getElem?_eq_some_iff.1 hk).1
              simp at this
              omega
            rw [List.getElem?_append_left ki] at hk
            obtain ⟨v, hv, pv⟩ := HXR.out.2.2 k u hk
            exact ⟨v, by rw [Array.getElem?_setIfInBounds_ne (fun e => q e.symm)]; exact hv, pT.le le pv⟩
        · exact FR.more HX8.out.2.os HX8.out.2.tape HX8.out.2.output (by have := HX8.out.2.size; simp [World.setCell]; omega) (fun x hx => (nb x (by omega)).trans (HX8.out.2.block x (by omega))) le (fun x hx q => by rw [tag_ne _ _ (by omega)]; exact q)
        · exact s1.later (by simp [World.setCell]) (fun x ty hx => nb x (fun e => by rw [e, ft] at hx; cases hx))
    · obtain rfl : i = n := by omega
      go_wp2
      go_ret
      have e1 : l.take i = l := List.take_of_length_le (by rw [HN.out]; omega)
      obtain ⟨PR, FR, RR⟩ := HR.out
      rw [e1] at PR RR
      exact ⟨_, _, Gr, rfl, Nat.le_refl _, Nat.le_refl _, PR.full (by rw [atomsP_len, HN.out]), FR, RR⟩
end
end Go.Proofs.YtbajpejnnfacbaaGreatDoor.Lz

/- Package lazy: laying the one program that is laid at any rate: the scope around all, and the machine. -/
namespace Go.Proofs.YtbajpejnnfacbaaGreatDoor.Lz
open Go.RowKit
open Go.Maps (Keyed string_keyed int_keyed)
set_option linter.unusedVariables false
set_option linter.unusedSimpArgs false

set_option maxRecDepth 100000 in
theorem outmost_any (w : World) (v : Value) (ga : Option Addr) (n cap : Nat) (hv : v = .slice ga n cap) : Calls Tryz.prog 37 #[v] w fun e w' => ∃ b, e = .returned (ptr b) ∧ b = w.heap.size ∧ Bx w' b #[v, .int .i64 0, ptr b, ptr b] 86 ∧ Below w.heap.size w w' := by
  subst hv
  go_enter Tryz.func37, Tryz.ntmps37
  go_wp2
  go_ret
  exact ⟨w.heap.size, rfl, rfl, heap_alloc_new _ _, by go_grown⟩
theorem VM.store {w : World} {k : TypeId} {b n : Nat} {f : Lit → Option Value} (h : VM k w b n f) (K : Keyed Tryz.prog k) {t e : TypeId} (ht : Tryz.prog.underlying t = some (.map k e)) (hn : n < maxLen) {key val : Value} {kl : Lit} (hkey : keyOf Tryz.prog k key = some kl) :
    ∃ w', (Instr.mapUpdate t (.map (some b)) key val).run Tryz.prog w = .ok () w' ∧ VM k w' b (n + 1) (updV f kl val) ∧ w.grownBy w' (some b) := by
  obtain ⟨D, hD, q⟩ := h
  obtain ⟨w', hrun, r1, r2⟩ := hD.store K ht hn hkey (val := val) (d := .held val) (ps := []) rfl
  refine ⟨w', hrun, ⟨_, r1, fun y => ?_⟩, r2.grown⟩
  unfold updV
  by_cases ey : y = kl
  · subst ey
    rw [if_pos (WideAt.sameKey_self (K.key hkey))]
    exact ⟨Maps.has_put_same hD.isMap (K.key hkey) _, fun z => Maps.atKey_put_same hD.isMap (K.key hkey) _ z⟩
  · rw [if_neg (by rw [Maps.sameKey_ne ey]; simp)]
    exact ⟨(Maps.has_put_other ey _).trans (q y).1, fun z => (Maps.atKey_put_other ey _ z).trans ((q y).2 z)⟩
abbrev mainS : ByteArray := ⟨#[109, 97, 105, 110]⟩
abbrev mainL : Nm := [109, 97, 105, 110]
theorem key_main : keyOf Tryz.prog 9 (.string mainS) = some (.string mainL) := keyS (s := mainL) (by unfold maxLen; decide)
theorem below_grown {B b : Nat} {w W W' : World} (h : Below B w W) (k : W.grownBy W' (some b)) (hB : B ≤ b) (hs : B ≤ w.heap.size) : Below B w W' :=
  ⟨k.os.trans h.os, k.tape.trans h.tape, k.output.trans h.output, Nat.le_trans h.size k.size, fun i hi => (k.block i (by have := h.size; omega) (fun e => by cases e; omega)).trans (h.block i hi)⟩
structure Laid1 (w : World) (B : Nat) (n : Int) (mb bm hm e tb q cq f p a ca : Nat) : Prop where
  xm : Bx w mb #[nils, .map (some bm), ptr e, .map (some hm), .int .i64 0, nils, .int .i64 0, .bool false] 74
  xbm : VM 9 w bm 1 (updV (fun _ => none) (.string mainL) (.int .i64 0))
  xhm : VM 3 w hm 0 (fun _ => none)
  xe : Bx w e #[.slice (some ⟨q, 0, none⟩) 1 cq, .int .i64 0, ptr e, ptr e] 86
  xq : w.cell? ⟨q, 0, none⟩ = some (ptr tb)
  xtb : Bx w tb (thC 6 0 (ptr f) (ptr e) nilp nils nilm 0) 91
  xf : Bx w f #[.int .i64 0, ptr p] 119
  xp : Bx w p (emX a ca) 147
  xa : AtB w B a n
  ord : B ≤ bm ∧ bm < hm ∧ hm < mb ∧ mb < tb ∧ tb < q ∧ q < e ∧ e < f ∧ f < p ∧ p < a ∧ 1 ≤ cq ∧ 1 ≤ ca
abbrev biB (g off cap : Nat) : Array Value := #[.string mainS, .int .i64 0, nils, .int .i64 3, .int .i64 0, .string emitS, .int .i64 0, .slice (some ⟨g, off, none⟩) 1 cap, nils, nils, nils]
set_option maxRecDepth 100000 in
set_option maxHeartbeats 8000000 in
theorem laid_emit {w : World} (T : Table w) (bb g off cap : Nat) (n : Int) (hb : ∀ j u, (biB g off cap)[j]? = some u → w.cell? ⟨bb, j, none⟩ = some u) (h0 : w.cell? ⟨g, off, none⟩ = some (.string ⟨#[]⟩)) (h1 : w.cell? ⟨g, off + 1, none⟩ = some (.int .i64 n)) :
    Calls Tryz.prog 32 #[.agg #[nils, .slice (some ⟨bb, 0, none⟩) 1 1]] w fun e w' => ∃ mb bm hm e' tb q cq f p a ca, e = .returned (ptr mb) ∧ Laid1 w' w.heap.size n mb bm hm e' tb q cq f p a ca ∧ Below w.heap.size w w' := by
  obtain ⟨i0, hi, hz0, hz1, hz2⟩ := info_parts info78
  obtain ⟨W1, hW1⟩ : ∃ W1, W1 = ((((((w.alloc (.cells #[nils, .slice (some ⟨bb, 0, none⟩) 1 1] 25)).alloc (.map #[] 0)).alloc (.map #[] 0)).alloc (.cells #[nils, .map (some (w.heap.size + 1)), nilp, .map (some (w.heap.size + 2)), .int .i64 0, nils, .int .i64 0, .bool false] 74)).alloc (.map #[] 0)).alloc (.map #[] 0)).alloc (.cells #[.map (some (w.heap.size + 4)), .map (some (w.heap.size + 5)), .int .i64 0] 110) := ⟨_, rfl⟩
  have HB1 : Hid (Below w.heap.size w W1) := ⟨by subst hW1; go_grown⟩
  have sz : W1.heap.size = w.heap.size + 7 := by subst hW1; simp
  have A1 : ∀ (u : World) (o : Obj) (i : Nat) (x : Obj), u.heap[i]? = some x → (u.alloc o).heap[i]? = some x := fun u o i x h => later' h (Joins.below_alloc1 _ _)
  have X0 : Bx W1 w.heap.size #[nils, .slice (some ⟨bb, 0, none⟩) 1 1] 25 := by
    subst hW1
    exact A1 _ _ _ _ (A1 _ _ _ _ (A1 _ _ _ _ (A1 _ _ _ _ (A1 _ _ _ _ (A1 _ _ _ _ (heap_alloc_new _ _))))))
  have X3 : Bx W1 (w.heap.size + 3) #[nils, .map (some (w.heap.size + 1)), nilp, .map (some (w.heap.size + 2)), .int .i64 0, nils, .int .i64 0, .bool false] 74 := by
    subst hW1
    refine A1 _ _ _ _ (A1 _ _ _ _ (A1 _ _ _ _ ?_))
    have := heap_alloc_new (((w.alloc (.cells #[nils, .slice (some ⟨bb, 0, none⟩) 1 1] 25)).alloc (.map #[] 0)).alloc (.map #[] 0)) (.cells #[nils, .map (some (w.heap.size + 1)), nilp, .map (some (w.heap.size + 2)), .int .i64 0, nils, .int .i64 0, .bool false] 74)
    simp only [World.size_alloc] at this
    exact this
  have X6 : Bx W1 (w.heap.size + 6) #[.map (some (w.heap.size + 4)), .map (some (w.heap.size + 5)), .int .i64 0] 110 := by
    subst hW1
    have := heap_alloc_new ((((((w.alloc (.cells #[nils, .slice (some ⟨bb, 0, none⟩) 1 1] 25)).alloc (.map #[] 0)).alloc (.map #[] 0)).alloc (.cells #[nils, .map (some (w.heap.size + 1)), nilp, .map (some (w.heap.size + 2)), .int .i64 0, nils, .int .i64 0, .bool false] 74)).alloc (.map #[] 0)).alloc (.map #[] 0)) (.cells #[.map (some (w.heap.size + 4)), .map (some (w.heap.size + 5)), .int .i64 0] 110)
    simp only [World.size_alloc] at this
    exact this
  have mk : ∀ (k : TypeId) (u : World) (m : Nat), u.heap.size = m → VM k (u.alloc (.map #[] 0)) m 0 (fun _ => none) := fun k u m h => h ▸ VM.made k u
  have vk : ∀ {k : TypeId} {u : World} {m : Nat} {f : Lit → Option Value} (o : Obj), VM k u m 0 f → VM k (u.alloc o) m 0 f := fun o h => h.of_block ((Joins.below_alloc1 _ _).block _ h.lt)
  have V1 : VM 9 W1 (w.heap.size + 1) 0 (fun _ => none) := by
    subst hW1
    exact vk _ (vk _ (vk _ (vk _ (vk _ (mk _ _ _ (by simp))))))
  have V2 : VM 3 W1 (w.heap.size + 2) 0 (fun _ => none) := by
    subst hW1
    exact vk _ (vk _ (vk _ (vk _ (mk _ _ _ (by simp)))))
  have V5 : VM 9 W1 (w.heap.size + 5) 0 (fun _ => none) := by
    subst hW1
    exact vk _ (mk _ _ _ (by simp))
  have HX := Hid.mk (And.intro X0 (And.intro X3 (And.intro X6 (And.intro V1 (And.intro V2 V5)))))
  have HSZ := Hid.mk sz
  have HT := Hid.mk T
  have HAB := Hid.mk (And.intro hb (And.intro h0 h1))
  have p0 : W1.cell? ⟨w.heap.size, 0, none⟩ = some nils := X0.cell 0
  have p1 : W1.cell? ⟨w.heap.size, 1, none⟩ = some (.slice (some ⟨bb, 0, none⟩) 1 1) := X0.cell 1
  clear X0 X3 X6 V1 V2 V5 mk vk A1 T hb h0 h1 sz
  have hmm := @run_makeMap Tryz.prog
  go_enter Tryz.func32, Tryz.ntmps32
  go_upto_region 3 with fail
  rw [← hW1]
  clear hW1 hmm
  simp only [Nat.add_assoc, Nat.reduceAdd]
  go_wp2
  go_loopw [23] (fun u wr => u = .int .i64 0 ∧ wr = W1) (fun _ _ => 0)
  case atStart => exact ⟨rfl, rfl⟩
  case round =>
    obtain ⟨rfl, e⟩ := hrel
    replace e := e.symm
    subst e
    go_wp2
    go_loopw [7, 48] (fun v c wr => (c = .int .i64 0 ∧ v = nils ∧ wr = W1) ∨ (c = .int .i64 1 ∧ ∃ tb q cq, v = .slice (some ⟨q, 0, none⟩) 1 cq ∧ Hid (Bx wr (w.heap.size + 3) #[nils, .map (some (w.heap.size + 1)), nilp, .map (some (w.heap.size + 2)), .int .i64 0, nils, .int .i64 0, .bool false] 74 ∧ VM 9 wr (w.heap.size + 1) 1 (updV (fun _ => none) (.string mainL) (.int .i64 0)) ∧ VM 3 wr (w.heap.size + 2) 0 (fun _ => none) ∧ Bx wr tb (thC 6 0 nilp nilp nilp nils nilm 0) 91 ∧ wr.cell? ⟨q, 0, none⟩ = some (ptr tb) ∧ 1 ≤ cq ∧ w.heap.size + 6 < tb ∧ tb < q ∧ q < wr.heap.size ∧ wr.cell? ⟨w.heap.size, 1, none⟩ = some (.slice (some ⟨bb, 0, none⟩) 1 1) ∧ Below w.heap.size w wr))) (fun _ c _ => 1 - (intOf c).toNat)
    case atStart => exact .inl ⟨rfl, rfl, rfl⟩
    case round =>
      rcases hrel with ⟨rfl, rfl, e⟩ | ⟨rfl, tb, q, cq, rfl, HH⟩
      · replace e := e.symm
        subst e
        obtain ⟨X0, X3, X6, V1, V2, V5⟩ := HX.out
        have HB := HB1.out
        have b0 := cellL HB (HAB.out.1 0 _ rfl)
        have b1 := cellL HB (HAB.out.1 1 _ rfl)
        have b2 := cellL HB (HAB.out.1 2 _ rfl)
        have b3 := cellL HB (HAB.out.1 3 _ rfl)
        have b4 := cellL HB (HAB.out.1 4 _ rfl)
        have b5 := cellL HB (HAB.out.1 5 _ rfl)
        have b6 := cellL HB (HAB.out.1 6 _ rfl)
        have b7 := cellL HB (HAB.out.1 7 _ rfl)
        have b8 := cellL HB (HAB.out.1 8 _ rfl)
        have b9 := cellL HB (HAB.out.1 9 _ rfl)
        have b10 := cellL HB (HAB.out.1 10 _ rfl)
        obtain ⟨W2, hW2⟩ : ∃ W2, W2 = W1.alloc (.cells (biB g off cap) 58) := ⟨_, rfl⟩
        have B12 : Below W1.heap.size W1 W2 := by subst hW2; exact Joins.below_alloc1 _ _
        have s2 : W2.heap.size = w.heap.size + 8 := by subst hW2; rw [World.size_alloc, HSZ.out]
        have X7 : Bx W2 (w.heap.size + 7) (biB g off cap) 58 := by subst hW2; have := heap_alloc_new W1 (.cells (biB g off cap) 58); rw [HSZ.out] at this; exact this
        have eS : W1.heap.size = w.heap.size + 7 := HSZ.out
        obtain ⟨w3, run3, vm3, gr3⟩ := VM.store (w := W2.drew) (V1.of_block (B12.block _ V1.lt)) lawS Tryz.underlying70 (by unfold maxLen; omega) (val := .int .i64 0) key_main
        have m1 : W2.cell? ⟨w.heap.size + 3, 1, none⟩ = some (.map (some (w.heap.size + 1))) := Bx.cell (later' X3 B12) 1
        have n7 : W2.cell? ⟨w.heap.size + 7, 0, none⟩ = some (.string mainS) := X7.cell 0
        clear p0 p1
        have k3 : ∀ i, i < W2.heap.size → i ≠ w.heap.size + 1 → w3.heap[i]? = W2.heap[i]? := fun i hi hn => gr3.block i hi (fun e => hn (Option.some.inj e))
        have m13 : w3.cell? ⟨w.heap.size + 3, 1, none⟩ = some (.map (some (w.heap.size + 1))) := (World.cell?_of_block (a := ⟨w.heap.size + 3, 1, none⟩) (k3 (w.heap.size + 3) (by omega) (by omega))).trans m1
        have n73 : w3.cell? ⟨w.heap.size + 7, 0, none⟩ = some (.string mainS) := (World.cell?_of_block (a := ⟨w.heap.size + 7, 0, none⟩) (k3 (w.heap.size + 7) (by omega) (by omega))).trans n7
        have X6w : Bx w3 (w.heap.size + 6) #[.map (some (w.heap.size + 4)), .map (some (w.heap.size + 5)), .int .i64 0] 110 := (k3 _ (by omega) (by omega)).trans (later' X6 B12)
        have l63 : w3.cell? ⟨w.heap.size + 6, 1, none⟩ = some (.map (some (w.heap.size + 5))) := X6w.cell 1
        have V5w : VM 9 w3 (w.heap.size + 5) 0 (fun _ => none) := V5.of_block ((k3 _ (by omega) (by omega)).trans (B12.block _ V5.lt))
        have s3 : w.heap.size + 8 ≤ w3.heap.size := by have := gr3.size; have e : W2.drew.heap.size = W2.heap.size := rfl; omega
        have HV5 : Hid (∀ o, VM 9 (w3.alloc o) (w.heap.size + 5) 0 (fun _ => none)) := ⟨fun o => V5w.of_block ((Joins.below_alloc1 _ _).block _ V5w.lt)⟩
        have H3 := Hid.mk (And.intro k3 (And.intro vm3 (And.intro B12 (And.intro s2 (And.intro s3 gr3)))))
        clear k3 vm3 B12 gr3 V1 V2 V5 V5w X0 X3 X6 X6w s2 HB X7
        go_wp2
        rw [← hW2]
        clear hW2
        go_region_held3 (fun w' => w'.cell? ⟨w.heap.size + 3, 1, none⟩ = some (.map (some (w.heap.size + 1))) ∧ w'.cell? ⟨w.heap.size + 7, 0, none⟩ = some (.string mainS)) (go_keep) (fail)
        clear run3 m1 n7
        go_wp2_with (first
          | (at_mapUpdate; refine wpList_vm_put _ rfl _ _ _ 108 rfl 9 115 lawS Tryz.underlying108 (w.heap.size + 5) 0 _ rfl (HV5.out _) (by unfold maxLen; omega) _ _ _ rfl rfl key_main ?_; intro w5 vm5 gr5; have H5 := Hid.mk gr5; clear vm5 gr5)
          | (at_builtin; have zz := H5; refine wpList_append_T rfl (.tmp 67) (.tmp 70) 84 rfl (w5.heap.size + 1) 78 i0 _ 1 8 Tryz.underlying84 hi hz0 hz1 hz2 rfl (by decide) nils 0 [] rfl (.inl ⟨rfl, rfl, none, rfl⟩) (some ⟨w5.heap.size + 1, 0, none⟩) 1 1 [ptr w5.heap.size] rfl rfl (fun _ => ⟨_, rfl, by have := World.news_of_block (heap_alloc_new (w5.alloc (.cells (thC 6 0 nilp nilp nilp nils nilm 0) 91)) (.cells #[ptr w5.heap.size] 78)); simpa using this⟩) (by simp [Value.oneCell']) 1 rfl [ptr w5.heap.size] rfl (by unfold maxLen; omega) (by omega) (by simp) ?_; intro g6 c6 w6 R6 B6; have H6 := Hid.mk (And.intro R6 B6); clear R6 B6))
        obtain ⟨R6, B6⟩ := H6.out
        obtain ⟨k3, vm3, B12, s2, s3, gr3⟩ := H3.out
        have gr5 := H5.out
        obtain ⟨X0, X3, X6, V1, V2, V5⟩ := HX.out
        obtain ⟨q, rfl, r1, r2, r3, r4⟩ := RowS.open R6 (by omega)
        have s5 : w.heap.size + 9 ≤ w5.heap.size := by have := gr5.size; rw [World.size_alloc] at this; omega
        have k5 : ∀ i, i < w3.heap.size → i ≠ w.heap.size + 5 → w5.heap[i]? = w3.heap[i]? := fun i hi hn => (gr5.block i (by rw [World.size_alloc]; omega) (fun e => hn (Option.some.inj e))).trans ((Joins.below_alloc1 w3 _).block i hi)
        have k6 : ∀ i, i < w5.heap.size → w6.heap[i]? = w5.heap[i]? := fun i hi => (B6.block i (by omega)).trans (((Joins.below_alloc1 _ _).block i (by rw [World.size_alloc]; omega)).trans ((Joins.below_alloc1 w5 _).block i hi))
        have kk : ∀ i, i < W1.heap.size → i ≠ w.heap.size + 1 → i ≠ w.heap.size + 5 → w6.heap[i]? = W1.heap[i]? := fun i hi a b => (k6 i (by omega)).trans ((k5 i (by omega) b).trans ((k3 i (by omega) a).trans (B12.block i hi)))
        have tbX : Bx w6 w5.heap.size (thC 6 0 nilp nilp nilp nils nilm 0) 91 := (B6.block _ (by omega)).trans (((Joins.below_alloc1 _ _).block _ (by rw [World.size_alloc]; omega)).trans (heap_alloc_new w5 _))
        have bl3 : Below w.heap.size w w3 := below_grown (lOn HB1.out B12).drew gr3 (by omega) (Nat.le_refl _)
        have bl5 : Below w.heap.size w w5 := below_grown (bl3.alloc bl3.size _) gr5 (by omega) (Nat.le_refl _)
        have bl6 : Below w.heap.size w w6 := ((bl5.alloc bl5.size _).alloc (by rw [World.size_alloc]; omega) _).trans (Joins.below_le B6 (by omega))
        refine ⟨.inr ⟨by go_num, w5.heap.size, q, c6, rfl, ⟨(kk _ (by omega) (by omega) (by omega)).trans X3, vm3.of_block ((k6 _ (by omega)).trans (k5 _ (by omega) (by omega))), V2.of_block (kk _ (by omega) (by omega) (by omega)), tbX, r4 0 _ rfl, r3, by omega, by omega, r2, ?_, bl6⟩⟩, by simp [intOf]⟩
        exact (World.cell?_of_block (a := ⟨w.heap.size, 1, none⟩) (kk w.heap.size (by omega) (by omega) (by omega))).trans (X0.cell 1)
      · obtain ⟨X3, V1, V2, tbX, q0, c1, o1, o2, ql, pp, BL⟩ := HH.out
        have sW : w.heap.size + 8 ≤ wr.heap.size := by omega
        have HQ := Hid.mk (And.intro X3 (And.intro V1 (And.intro V2 (And.intro tbX (And.intro q0 (And.intro c1 (And.intro o1 (And.intro o2 (And.intro ql (And.intro pp BL))))))))))
        have M7 : Hid (∀ W, Below wr.heap.size wr W → W.cell? ⟨w.heap.size + 3, 2, none⟩ = some nilp ∧ W.frozen? ⟨w.heap.size + 3, 2, none⟩ = false) := ⟨fun W hW => by
          have b := later' X3 hW
          exact ⟨Bx.cell b 2, Joins.unfrozen_of_block b 2⟩⟩
        have P7 : Hid (∀ W eb, Below wr.heap.size wr W → (W.setCell ⟨w.heap.size + 3, 2, none⟩ (ptr eb)).cell? ⟨w.heap.size, 1, none⟩ = some (.slice (some ⟨bb, 0, none⟩) 1 1)) := ⟨fun W eb hW => (World.cell?_of_block (a := ⟨w.heap.size, 1, none⟩) (setCell_block W ⟨w.heap.size + 3, 2, none⟩ (ptr eb) w.heap.size (by show w.heap.size ≠ w.heap.size + 3; omega))).trans (cellL hW pp)⟩
        clear X3 V1 V2 tbX q0 pp BL p0 p1 HX HH
        go_wp2_with (go_at_call 37; refine (outmost_any _ _ _ _ _ rfl).mono ?_; rintro e w7 ⟨eb, rfl, he, X7, G7⟩; obtain ⟨f2, z2⟩ := M7.out w7 G7; have pp8 := P7.out w7 eb G7; have H7 := Hid.mk (And.intro he (And.intro X7 G7)); clear he X7 G7)
        obtain ⟨W8, hW8⟩ : ∃ W8, W8 = w7.setCell ⟨w.heap.size + 3, 2, none⟩ (ptr eb) := ⟨_, rfl⟩
        rw [← hW8] at pp8 ⊢
        have H8 := Hid.mk hW8
        clear hW8 f2 z2 M7 P7
        go_loopw [81] (fun c wx => (c = .int .i64 0 ∧ wx = W8) ∨ (c = .int .i64 1 ∧ Hid (∃ f p a ca, Laid1 wx w.heap.size n (w.heap.size + 3) (w.heap.size + 1) (w.heap.size + 2) eb tb q cq f p a ca ∧ Below w.heap.size w wx))) (fun c _ => 1 - (intOf c).toNat)
        case atStart => exact .inl ⟨rfl, rfl⟩
        case round =>
          rcases hrel with ⟨rfl, e⟩ | ⟨rfl, HH⟩
          · replace e := e.symm
            subst e
            obtain ⟨X3, V1, V2, tbX, q0, c1', o1', o2', ql', pp, BL⟩ := HQ.out
            obtain ⟨he, X7, G7⟩ := H7.out
            have h8 := H8.out
            have B8 : Below w.heap.size w W8 := by rw [h8]; exact (lOn BL G7).setCell (by show w.heap.size ≤ w.heap.size + 3; omega) _
            have k8 : ∀ i, i < W8.heap.size → i ≠ w.heap.size + 3 → W8.heap[i]? = w7.heap[i]? := fun i _ hn => by rw [h8]; exact setCell_block _ _ _ _ hn
            have s8 : W8.heap.size = w7.heap.size := by rw [h8]; simp [World.setCell]
            have M8 : Bx W8 (w.heap.size + 3) #[nils, .map (some (w.heap.size + 1)), ptr eb, .map (some (w.heap.size + 2)), .int .i64 0, nils, .int .i64 0, .bool false] 74 := by rw [h8]; exact Joins.block_setCell (i := 2) (later' X3 G7) (ptr eb)
            have s7 := G7.size
            have el : eb < w7.heap.size := X7.lt
            have tb8 : Bx W8 tb (thC 6 0 nilp nilp nilp nils nilm 0) 91 := (k8 tb (by omega) (by omega)).trans (later' tbX G7)
            have q8 : W8.cell? ⟨q, 0, none⟩ = some (ptr tb) := (World.cell?_of_block (a := ⟨q, 0, none⟩) (k8 q (by omega) (by omega))).trans (cellL G7 q0)
            have e8 : Bx W8 eb #[.slice (some ⟨q, 0, none⟩) 1 cq, .int .i64 0, ptr eb, ptr eb] 86 := (k8 eb (by omega) (by omega)).trans X7
            have v8 : VM 9 W8 (w.heap.size + 1) 1 (updV (fun _ => none) (.string mainL) (.int .i64 0)) := V1.of_block ((k8 _ (by omega) (by omega)).trans (G7.block _ V1.lt))
            have u8 : VM 3 W8 (w.heap.size + 2) 0 (fun _ => none) := V2.of_block ((k8 _ (by omega) (by omega)).trans (G7.block _ V2.lt))
            have b0 := cellL B8 (HAB.out.1 0 _ rfl)
            have b1 := cellL B8 (HAB.out.1 1 _ rfl)
            have b2 := cellL B8 (HAB.out.1 2 _ rfl)
            have b3 := cellL B8 (HAB.out.1 3 _ rfl)
            have b4 := cellL B8 (HAB.out.1 4 _ rfl)
            have b5 := cellL B8 (HAB.out.1 5 _ rfl)
            have b6 := cellL B8 (HAB.out.1 6 _ rfl)
            have b7 := cellL B8 (HAB.out.1 7 _ rfl)
            have b8 := cellL B8 (HAB.out.1 8 _ rfl)
            have b9 := cellL B8 (HAB.out.1 9 _ rfl)
            have b10 := cellL B8 (HAB.out.1 10 _ rfl)
            obtain ⟨W9, hW9⟩ : ∃ W9, W9 = W8.alloc (.cells (biB g off cap) 58) := ⟨_, rfl⟩
            have B9 : Below W8.heap.size W8 W9 := by subst hW9; exact Joins.below_alloc1 _ _
            have X9 : Bx W9 W8.heap.size (biB g off cap) 58 := by subst hW9; exact heap_alloc_new _ _
            have q9 : W9.cell? ⟨q, 0, none⟩ = some (ptr tb) := cellL B9 q8
            have g9 : W9.cell? ⟨w.heap.size + 3, 2, none⟩ = some (ptr eb) := cellL B9 (M8.cell 2)
            have d2 : W9.cell? ⟨W8.heap.size, 2, none⟩ = some (nils) := X9.cell 2
            have d3 : W9.cell? ⟨W8.heap.size, 3, none⟩ = some (.int .i64 3) := X9.cell 3
            have d4 : W9.cell? ⟨W8.heap.size, 4, none⟩ = some (.int .i64 0) := X9.cell 4
            have d5 : W9.cell? ⟨W8.heap.size, 5, none⟩ = some (.string emitS) := X9.cell 5
            have d6 : W9.cell? ⟨W8.heap.size, 6, none⟩ = some (.int .i64 0) := X9.cell 6
            have d7 : W9.cell? ⟨W8.heap.size, 7, none⟩ = some (.slice (some ⟨g, off, none⟩) 1 cap) := X9.cell 7
            have d8 : W9.cell? ⟨W8.heap.size, 8, none⟩ = some (nils) := X9.cell 8
            have d9 : W9.cell? ⟨W8.heap.size, 9, none⟩ = some (nils) := X9.cell 9
            have d10 : W9.cell? ⟨W8.heap.size, 10, none⟩ = some (nils) := X9.cell 10
            have C := form_emit (HT.out.later (lOn B8 B9).drew) (w.heap.size + 6) g off cap n (w := W9.drew) (cellL (lOn B8 B9) HAB.out.2.1) (cellL (lOn B8 B9) HAB.out.2.2)
            have H9 := Hid.mk (And.intro B8 (And.intro s8 (And.intro M8 (And.intro tb8 (And.intro q8 (And.intro e8 (And.intro v8 (And.intro u8 (And.intro B9 (And.intro el (And.intro he s7)))))))))))
            have n8 : ¬ tb = W8.heap.size := by omega
            have n3 : ¬ tb = w.heap.size + 3 := by omega
            clear X3 V1 V2 tbX q0 c1' o1' o2' ql' pp BL he X7 G7 h8 B8 k8 s8 M8 tb8 e8 v8 u8 B9 X9 el s7
            go_upto_region 21 with fail
            rw [← hW9]
            clear hW9
            go_upto_region 22 with fail
            go_region_held3 (fun w' => w'.cell? ⟨w.heap.size + 3, 2, none⟩ = some (ptr eb) ∧ w'.cell? ⟨W8.heap.size, 2, none⟩ = some (nils) ∧ w'.cell? ⟨W8.heap.size, 3, none⟩ = some (.int .i64 3) ∧ w'.cell? ⟨W8.heap.size, 4, none⟩ = some (.int .i64 0) ∧ w'.cell? ⟨W8.heap.size, 5, none⟩ = some (.string emitS) ∧ w'.cell? ⟨W8.heap.size, 6, none⟩ = some (.int .i64 0) ∧ w'.cell? ⟨W8.heap.size, 7, none⟩ = some (.slice (some ⟨g, off, none⟩) 1 cap) ∧ w'.cell? ⟨W8.heap.size, 8, none⟩ = some (nils) ∧ w'.cell? ⟨W8.heap.size, 9, none⟩ = some (nils) ∧ w'.cell? ⟨W8.heap.size, 10, none⟩ = some (nils)) (go_keep) (first | (go_at_call 38; refine C.mono ?_; rintro e w10 ⟨f, p, a, ca, rfl, k1, k2, k3, k4, k5, k6, k7, G10⟩; have D10 := lOn (Below.refl W9.heap.size W9).drew G10; have T10 : Bx w10 tb (thC 6 0 nilp nilp nilp nils nilm 0) 91 := later' (later' H9.out.2.2.2.1 H9.out.2.2.2.2.2.2.2.2.1) D10; have sk : ∀ {x o : Nat} {u : Value}, x ≠ tb → w10.cell? ⟨x, o, none⟩ = some u → ((w10.setCell ⟨tb, 2, none⟩ (ptr f)).cell? ⟨x, o, none⟩ = some u ∧ ((w10.setCell ⟨tb, 2, none⟩ (ptr f)).setCell ⟨tb, 3, none⟩ (ptr eb)).cell? ⟨x, o, none⟩ = some u) := fun hx hu => ⟨(World.cell?_of_block (setCell_block w10 ⟨tb, 2, none⟩ (ptr f) _ hx)).trans hu, (World.cell?_of_block ((setCell_block _ ⟨tb, 3, none⟩ (ptr eb) _ hx).trans (setCell_block w10 ⟨tb, 2, none⟩ (ptr f) _ hx))).trans hu⟩; have g10 := cellL D10 g9; obtain ⟨g11, g12⟩ := sk (Ne.symm n3) g10; have d2' := cellL D10 d2; obtain ⟨i2, j2⟩ := sk (Ne.symm n8) d2'; have d3' := cellL D10 d3; obtain ⟨i3, j3⟩ := sk (Ne.symm n8) d3'; have d4' := cellL D10 d4; obtain ⟨i4, j4⟩ := sk (Ne.symm n8) d4'; have d5' := cellL D10 d5; obtain ⟨i5, j5⟩ := sk (Ne.symm n8) d5'; have d6' := cellL D10 d6; obtain ⟨i6, j6⟩ := sk (Ne.symm n8) d6'; have d7' := cellL D10 d7; obtain ⟨i7, j7⟩ := sk (Ne.symm n8) d7'; have d8' := cellL D10 d8; obtain ⟨i8, j8⟩ := sk (Ne.symm n8) d8'; have d9' := cellL D10 d9; obtain ⟨i9, j9⟩ := sk (Ne.symm n8) d9'; have d10' := cellL D10 d10; obtain ⟨i10, j10⟩ := sk (Ne.symm n8) d10'; have t2 := T10.cell 2; have t3 := T10.cell 3; have z2 := Joins.unfrozen_of_block T10 2; have z3 := Joins.unfrozen_of_block T10 3; have HK := Hid.mk (And.intro k1 (And.intro k2 (And.intro k3 (And.intro k4 (And.intro k5 (And.intro k6 (And.intro k7 (And.intro D10 T10)))))))); clear k1 k2 k3 k4 k5 k6 k7 G10 D10 T10 sk C))
            obtain ⟨k1, k2, k3, k4, k5, k6, k7, D10, T10⟩ := HK.out
            obtain ⟨B8, s8, M8, tb8, q8, e8, v8, u8, B9, el, he, s7⟩ := H9.out
            have s9 := B9.size
            have s10 := D10.size
            have k1' : W9.heap.size ≤ f := k1
            obtain ⟨W11, hW11⟩ : ∃ W11, W11 = (w10.setCell ⟨tb, 2, none⟩ (ptr f)).setCell ⟨tb, 3, none⟩ (ptr eb) := ⟨_, rfl⟩
            rw [← hW11]
            have k11 : ∀ i, i ≠ tb → W11.heap[i]? = w10.heap[i]? := fun i hn => by rw [hW11]; exact (setCell_block _ _ _ _ hn).trans (setCell_block _ _ _ _ hn)
            have s11 : W11.heap.size = w10.heap.size := by rw [hW11]; simp [World.setCell]
            have T11 : Bx W11 tb (thC 6 0 (ptr f) (ptr eb) nilp nils nilm 0) 91 := by rw [hW11]; exact Joins.block_setCell (i := 3) (Joins.block_setCell (i := 2) T10 (ptr f)) (ptr eb)
            have B11 : Below w.heap.size w W11 := by rw [hW11]; exact ((lOn (lOn B8 B9) D10).setCell (by show w.heap.size ≤ tb; omega) _).setCell (by show w.heap.size ≤ tb; omega) _
            have kw : ∀ i, i < W8.heap.size → i ≠ tb → W11.heap[i]? = W8.heap[i]? := fun i hi hn => (k11 i hn).trans ((D10.block i (by omega)).trans (B9.block i hi))
            have LL : Laid1 W11 w.heap.size n (w.heap.size + 3) (w.heap.size + 1) (w.heap.size + 2) eb tb q cq f p a ca := by
              refine ⟨(kw _ (by omega) (by omega)).trans M8, v8.of_block (kw _ (by omega) (by omega)), u8.of_block (kw _ (by omega) (by omega)), (kw _ (by omega) (by omega)).trans e8, (World.cell?_of_block (a := ⟨q, 0, none⟩) (kw q (by omega) (by omega))).trans q8, T11, (k11 _ (by omega)).trans k5, (k11 _ (by omega)).trans k6, ?_, by omega⟩
              have z := k7.1
              have z' : W9.heap.size ≤ a := z
              have A := atb_set (w := w10) ⟨by omega, k7.2⟩ (b := w.heap.size) (q := a) (n := n) (p := tb) (o := 2) (by omega) (ptr f)
              rw [hW11]
              exact atb_set A (by omega) (ptr eb)
            have HL := Hid.mk (And.intro LL B11)
            have t2' : W11.cell? ⟨tb, 2, none⟩ = some (ptr f) := T11.cell 2
            have f0' : W11.cell? ⟨f, 0, none⟩ = some (.int .i64 0) := (World.cell?_of_block (a := ⟨f, 0, none⟩) (k11 f (by omega))).trans (k5.cell 0)
            clear hW11 LL B11 kw T11 k11 k1 k2 k3 k4 k5 k6 k7 D10 T10 B8 s8 M8 tb8 q8 e8 v8 u8 B9 he s7 t2 t3 z2 z3 g9 g10 g11 g12 d2 d3 d4 d5 d6 d7 d8 d9 d10 i2 i3 i4 i5 i6 i7 i8 i9 i10 j2 j3 j4 j5 j6 j7 j8 j9 j10
            go_wp2
            exact ⟨.inr ⟨by go_num, ⟨f, p, a, ca, HL.out.1, HL.out.2⟩⟩, by simp [intOf]⟩
          · obtain ⟨f, p, a, ca, L, B⟩ := HH.out
            have HL := Hid.mk (And.intro L B)
            clear L B
            go_wp2
            go_ret
            exact ⟨w.heap.size + 3, w.heap.size + 1, w.heap.size + 2, eb, tb, q, cq, f, p, a, ca, rfl, HL.out.1, HL.out.2⟩
end Go.Proofs.YtbajpejnnfacbaaGreatDoor.Lz

/- Package lazy: a run as it lies in memory; what is done next. -/
namespace Go.Proofs.YtbajpejnnfacbaaGreatDoor.Lz
open Go.RowKit
set_option linter.unusedVariables false
set_option linter.unusedSimpArgs false


/-- what a machine has besides -/
structure Mv where
  cons : Value
  binds : Value
  glob : Value
  hand : Value
  last : Int
abbrev rC (mb fuel : Nat) (nx : Int) (vx vn vo : Value) (wr : Int) (vw : Value) (sh : Int) : Array Value := #[ptr mb, .int .i64 fuel, .int .i64 nx, vx, vn, vo, .int .i64 wr, vw, .int .i64 sh]
abbrev mC (mv : Mv) (vo : Value) (steps : Nat) : Array Value := #[mv.cons, mv.binds, mv.glob, mv.hand, .int .i64 mv.last, vo, .int .i64 steps, .bool false]
def intC (l : List Int) : List Value := l.map fun n => .int .i64 n
abbrev fC (wh : Int) (o wi x nm : Value) (pl : Int) : List Value := [.int .i64 wh, o, wi, x, nm, .int .i64 pl]
/-- a primitive's list of things -/
def pPrw (G : Gm) (j n : Nat) (v : Value) : Prop := ∃ g cap, v = .slice (some ⟨g, 0, none⟩) n cap ∧ n ≤ cap ∧ G g = some (.prow j)
def fmC (G : Gm) : Fm → List Value → Prop
  | .same t, c => ∃ o, pT G t o ∧ c = fC 0 o nils nilp nilp 0
  | .things l, c => ∃ r, pRow G l r ∧ c = fC 1 nilp r nilp nilp 0
  | .arms al o e, c => ∃ x nm kid, pExp G (.cs kid al o) x ∧ pEnv G e nm ∧ c = fC 2 nilp nils x nm 0
  | .prim k j i, c => ∃ r x l n, pExp G (.prim k l) x ∧ pPrw G j n r ∧ (n : Int) = tA k ∧ c = fC 3 nilp r x nilp i
def fmsC (G : Gm) : List Fm → List Value → Prop
  | [], c => c = []
  | f :: r, c => ∃ c1 c2, c = c1 ++ c2 ∧ fmC G f c1 ∧ fmsC G r c2
def mdC (G : Gm) : Md → Int → Value → Value → Value → Int → Prop
  | .ev x e, nx, vx, vn, vo, wr => nx = 0 ∧ pExp G x vx ∧ pEnv G e vn
  | .kn t, nx, vx, vn, vo, wr => nx = 1 ∧ pT G t vo
  | .tl t, nx, vx, vn, vo, wr => nx = 2 ∧ pT G t vo
  | .rest t, nx, vx, vn, vo, wr => nx = 3 ∧ pT G t vo
  | .fail e, nx, vx, vn, vo, wr => nx = 4 ∧ wr = e
  | .starve, nx, vx, vn, vo, wr => nx = 5
theorem fmC_len {G : Gm} : ∀ {f : Fm} {c : List Value}, fmC G f c → c.length = 6
  | .same _, _, ⟨_, _, e⟩ => by rw [e]; rfl
  | .things _, _, ⟨_, _, e⟩ => by rw [e]; rfl
  | .arms _ _ _, _, ⟨_, _, _, _, _, e⟩ => by rw [e]; rfl
  | .prim _ _ _, _, ⟨_, _, _, _, _, _, _, e⟩ => by rw [e]; rfl
theorem fmsC_len {G : Gm} : ∀ {l : List Fm} {c : List Value}, fmsC G l c → c.length = l.length * 6
  | [], _, h => by rw [show _ = [] from h]; rfl
  | f :: r, _, ⟨c1, c2, e, h1, h2⟩ => by rw [e, List.length_append, fmC_len h1, fmsC_len h2, List.length_cons]; omega
theorem fmsC_snoc {G : Gm} : ∀ {l : List Fm} {c : List Value} {f : Fm} {d : List Value}, fmsC G l c → fmC G f d → fmsC G (l ++ [f]) (c ++ d)
  | [], _, f, d, h, k => by rw [show _ = [] from h]; exact ⟨d, [], by simp, k, rfl⟩
  | g :: r, _, f, d, ⟨c1, c2, e, h1, h2⟩, k => ⟨c1, c2 ++ d, by rw [e, List.append_assoc], h1, fmsC_snoc h2 k⟩
theorem fmsC_last {G : Gm} : ∀ {l : List Fm} {c : List Value} {f : Fm}, fmsC G (l ++ [f]) c → ∃ c1 d, c = c1 ++ d ∧ fmsC G l c1 ∧ fmC G f d
  | [], c, f, ⟨c1, c2, e, h1, h2⟩ => ⟨[], c1, by rw [e, show c2 = [] from h2]; simp, rfl, h1⟩
  | g :: r, c, f, ⟨c1, c2, e, h1, h2⟩ => by
    obtain ⟨a, d, e2, k1, k2⟩ := fmsC_last h2
    exact ⟨c1 ++ a, d, by rw [e, e2, List.append_assoc], ⟨c1, a, rfl, h1, k1⟩, k2⟩
section
variable {G G' : Gm}
theorem pPrw.le (h : Le G G') {j n : Nat} {v : Value} (k : pPrw G j n v) : pPrw G' j n v := by obtain ⟨g, cap, e, a, k⟩ := k; exact ⟨g, cap, e, a, h _ _ k⟩
theorem fmC.le (h : Le G G') : ∀ {f : Fm} {c : List Value}, fmC G f c → fmC G' f c
  | .same _, _, ⟨o, a, e⟩ => ⟨o, pT.le h a, e⟩
  | .things _, _, ⟨o, a, e⟩ => ⟨o, pRow.le h a, e⟩
  | .arms _ _ _, _, ⟨x, nm, k, a, b, e⟩ => ⟨x, nm, k, pExp.le h a, pEnv.le h b, e⟩
  | .prim _ _ _, _, ⟨r, x, l, n, a, b, e, f⟩ => ⟨r, x, l, n, pExp.le h a, pPrw.le h b, e, f⟩
theorem fmsC.le (h : Le G G') : ∀ {l : List Fm} {c : List Value}, fmsC G l c → fmsC G' l c
  | [], _, k => k
  | f :: r, _, ⟨c1, c2, e, h1, h2⟩ => ⟨c1, c2, e, fmC.le h h1, fmsC.le h h2⟩
theorem mdC.le (h : Le G G') {nx : Int} {vx vn vo : Value} {wr : Int} : ∀ {m : Md}, mdC G m nx vx vn vo wr → mdC G' m nx vx vn vo wr
  | .ev _ _, ⟨a, b, c⟩ => ⟨a, pExp.le h b, pEnv.le h c⟩
  | .kn _, ⟨a, b⟩ => ⟨a, pT.le h b⟩
  | .tl _, ⟨a, b⟩ => ⟨a, pT.le h b⟩
  | .rest _, ⟨a, b⟩ => ⟨a, pT.le h b⟩
  | .fail _, k => k
  | .starve, k => k
end
/-- a slice of one's own, whose block has that tag -/
structure Own (w : World) (G : Gm) (k : Nat) (e : TypeId) (size : Nat) (v : Value) (n : Nat) (xs : List Value) : Prop where
  row : w.ownsRow 0 e size v n xs
  tag : ∀ g, v.ownBlock = some g → G g = some (.own k)
theorem Own.kept {w w' : World} {G G' : Gm} {k : Nat} {e : TypeId} {size : Nat} {v : Value} {n : Nat} {xs : List Value} (h : Own w G k e size v n xs) (le : Le G G') (hb : ∀ g, G g = some (.own k) → w'.heap[g]? = w.heap[g]?) : Own w' G' k e size v n xs := by
  refine ⟨⟨h.row.1, ?_⟩, fun g hg => le _ _ (h.tag g hg)⟩
  rcases h.row.2 with q | ⟨g, cap, cur, rfl, a, b, r⟩
  · exact .inl q
  · exact .inr ⟨g, cap, cur, rfl, a, (hb g (h.tag g rfl)).trans b, r⟩
structure Run (w : World) (G : Gm) (rb mb : Nat) (mv : Mv) (s : St) (sh : Int) : Prop where
  rep : Rep w G s.th s.rows
  tab : Table w
  g0 : G 0 = none
  rt : G rb = some (.own 0)
  mt : G mb = some (.own 1)
  r : ∃ nx vx vn vo wr vw cs, Bx w rb (rC mb s.fuel nx vx vn vo wr vw sh) 101 ∧ mdC G s.md nx vx vn vo wr ∧ Own w G 2 160 6 vw s.ws.length cs ∧ fmsC G s.ws.reverse cs
  m : ∃ vo, Bx w mb (mC mv vo s.steps) 74 ∧ Own w G 3 2 1 vo s.out.length (intC s.out)
section
variable {w w' : World} {G G' : Gm} {rb mb : Nat} {mv : Mv} {s : St} {sh : Int}
theorem Run.ne (h : Run w G rb mb mv s sh) : rb ≠ mb := fun e => by have a := h.rt; rw [e, h.mt] at a; cases a
theorem Run.pos (h : Run w G rb mb mv s sh) : 0 < w.heap.size := World.block_lt_of_cell? _ _ (h.tab.n 0 (by decide))
theorem Run.rlt (h : Run w G rb mb mv s sh) : rb < w.heap.size := h.rep.lt h.rt
theorem Run.mlt (h : Run w G rb mb mv s sh) : mb < w.heap.size := h.rep.lt h.mt
theorem Table.of_block {w w' : World} (h : Table w) (hs : 0 < w.heap.size) (e : w'.heap[0]? = w.heap[0]?) : Table w' := by
  have k : ∀ o, w'.cell? ⟨0, o, none⟩ = w.cell? ⟨0, o, none⟩ := fun o => World.cell?_of_block e
  obtain ⟨t, fr, hf⟩ := h.blk
  exact ⟨⟨t, fr, e.trans hf⟩, fun j hj => (k _).trans (h.n j hj), fun j hj => (k _).trans (h.a j hj), fun j hj => (k _).trans (h.b j hj), fun j hj => (k _).trans (h.c j hj), fun j hj => (k _).trans (h.d j hj)⟩
/-- things have turned, nothing of the run's own -/
theorem Run.next (h : Run w G rb mb mv s sh) (F : Fx G G' w w') (ho : ∀ b k, G b = some (.own k) → w'.heap[b]? = w.heap[b]?) {th' : List T} {rows' : List (List Nat)} (R : Rep w' G' th' rows') : Run w' G' rb mb mv { s with th := th', rows := rows' } sh := by
  obtain ⟨nx, vx, vn, vo, wr, vw, cs, a, b, c, d⟩ := h.r
  obtain ⟨v2, m1, m2⟩ := h.m
  exact ⟨R, Table.of_block h.tab h.pos (F.block 0 h.pos (by rw [h.g0]; trivial)), F.new 0 h.pos h.g0, F.le _ _ h.rt, F.le _ _ h.mt,
    ⟨nx, vx, vn, vo, wr, vw, cs, (ho rb 0 h.rt).trans a, mdC.le F.le b, c.kept F.le (fun g hg => ho g _ hg), fmsC.le F.le d⟩,
    ⟨v2, (ho mb 1 h.mt).trans m1, m2.kept F.le (fun g hg => ho g _ hg)⟩⟩
theorem Run.below (h : Run w G rb mb mv s sh) (k : Below w.heap.size w w') : Run w' G rb mb mv s sh :=
  h.next (Fx.of_below k) (fun b j hb => k.block b (h.rep.lt hb)) (h.rep.below k)
/-- the run's block has turned, and nothing else -/
theorem Run.turn (h : Run w G rb mb mv s sh) {f : Nat} {nx : Int} {vx vn vo : Value} {wr : Int} {vw : Value} {sh' : Int} {ws' : List Fm} {md' : Md} {cs : List Value} (blk : Bx w' rb (rC mb f nx vx vn vo wr vw sh') 101) (os : w'.os = w.os) (tape : w'.tape = w.tape) (output : w'.output = w.output) (size : w.heap.size ≤ w'.heap.size)
    (oth : ∀ i, i < w.heap.size → i ≠ rb → w'.heap[i]? = w.heap[i]?) (hm : mdC G md' nx vx vn vo wr) (hw : Own w' G 2 160 6 vw ws'.length cs) (hc : fmsC G ws'.reverse cs) : Run w' G rb mb mv { s with fuel := f, ws := ws', md := md' } sh' ∧ Fx G G w w' := by
  have n0 : ∀ b ty, G b = some ty → (∀ k, ty = .own k → k ≠ 0) → w'.heap[b]? = w.heap[b]? := fun b ty hb hk => oth b (h.rep.lt hb) (fun e => by rw [e, h.rt] at hb; cases hb; exact hk 0 rfl rfl)
  obtain ⟨v2, m1, m2⟩ := h.m
  refine ⟨⟨?_, Table.of_block h.tab h.pos (oth 0 h.pos (fun e => by have := h.rt; rw [← e, h.g0] at this; cases this)), h.g0, h.rt, h.mt, ⟨nx, vx, vn, vo, wr, vw, cs, blk, hm, hw, hc⟩, ⟨v2, (n0 mb _ h.mt (fun k e => by cases e; decide)).trans m1, m2.kept (Le.refl G) (fun g hg => n0 g _ hg (fun k e => by cases e; decide))⟩⟩, Fx.of_own h.rt (by simp [fixd]) os tape output size oth⟩
  refine ⟨fun b ty hb => ?_, h.rep.has, h.rep.one, h.rep.oner⟩
  by_cases q : ty = .own 0
  · subst q; exact Nat.lt_of_lt_of_le (h.rep.lt hb) size
  · exact (h.rep.cont b ty hb).kept size (Le.refl G) ⟨n0 b ty hb (fun k e z => q (by rw [e, z])), fun i hi => ⟨rfl, fun m hm => n0 m _ hm (fun k e => by cases e)⟩, fun j hj => rfl⟩
/-- what a call of a run's leaves -/
def Out (w : World) (G : Gm) (rb mb : Nat) (mv : Mv) (s : St) (sh : Int) (e : Ending) (w' : World) : Prop := e = done ∧ ∃ G', Fx G G' w w' ∧ Run w' G' rb mb mv s sh
theorem Out.from {w0 : World} {G0 : Gm} {e : Ending} (F : Fx G0 G w0 w) (h : Out w G rb mb mv s sh e w') : Out w0 G0 rb mb mv s sh e w' := by
  obtain ⟨a, G', F', R⟩ := h
  exact ⟨a, G', F.trans F', R⟩
theorem knows_any (h : Run w G rb mb mv s sh) {t : Nat} {v : Value} (hv : pT G t v) : Calls Tryz.prog 49 #[ptr rb, v] w (Out w G rb mb mv { s with md := .kn t } sh) := by
  obtain ⟨nx, vx, vn, vo, wr, vw, cs, a, b, c, d⟩ := h.r
  have H := Hid.mk (And.intro h (And.intro a (And.intro c (And.intro d hv))))
  obtain ⟨bv, rfl, _⟩ := hv
  have c2 := a.cell 2
  have c5 := a.cell 5
  have z2 : w.frozen? ⟨rb, 2, none⟩ = false := Joins.unfrozen_of_block a 2
  have z5 : w.frozen? ⟨rb, 5, none⟩ = false := Joins.unfrozen_of_block a 5
  clear h a b c d
  go_enter Tryz.func49, Tryz.ntmps49
  go_wp2
  go_end0
  obtain ⟨h, a, c, d, hv⟩ := H.out
  have b1 : (w.setCell ⟨rb, 2, none⟩ (.int .i64 1)).heap[rb]? = _ := Joins.block_setCell (i := 2) a (.int .i64 1)
  have b2 : ((w.setCell ⟨rb, 2, none⟩ (.int .i64 1)).setCell ⟨rb, 5, none⟩ (ptr bv)).heap[rb]? = _ := Joins.block_setCell (i := 5) b1 (ptr bv)
  have oth : ∀ i, i ≠ rb → ((w.setCell ⟨rb, 2, none⟩ (.int .i64 1)).setCell ⟨rb, 5, none⟩ (ptr bv)).heap[i]? = w.heap[i]? := fun i hi => (setCell_block _ _ _ _ hi).trans (setCell_block _ _ _ _ hi)
  obtain ⟨R, F⟩ := h.turn (w' := (w.setCell ⟨rb, 2, none⟩ (.int .i64 1)).setCell ⟨rb, 5, none⟩ (ptr bv)) (md' := .kn t) (ws' := s.ws) b2 rfl rfl rfl (by simp [World.setCell]) (fun i _ hi => oth i hi) ⟨rfl, hv⟩ (c.kept (Le.refl G) (fun g hg => oth g (fun e => by rw [e, h.rt] at hg; cases hg))) d
  exact ⟨rfl, G, F, R⟩
theorem tells_any (h : Run w G rb mb mv s sh) {t : Nat} {v : Value} (hv : pT G t v) : Calls Tryz.prog 67 #[ptr rb, v] w (Out w G rb mb mv { s with md := .tl t } sh) := by
  obtain ⟨nx, vx, vn, vo, wr, vw, cs, a, b, c, d⟩ := h.r
  have H := Hid.mk (And.intro h (And.intro a (And.intro c (And.intro d hv))))
  obtain ⟨bv, rfl, _⟩ := hv
  have c2 := a.cell 2
  have c5 := a.cell 5
  have z2 : w.frozen? ⟨rb, 2, none⟩ = false := Joins.unfrozen_of_block a 2
  have z5 : w.frozen? ⟨rb, 5, none⟩ = false := Joins.unfrozen_of_block a 5
  clear h a b c d
  go_enter Tryz.func67, Tryz.ntmps67
  go_wp2
  go_end0
  obtain ⟨h, a, c, d, hv⟩ := H.out
  have b1 : (w.setCell ⟨rb, 2, none⟩ (.int .i64 2)).heap[rb]? = _ := Joins.block_setCell (i := 2) a (.int .i64 2)
  have b2 : ((w.setCell ⟨rb, 2, none⟩ (.int .i64 2)).setCell ⟨rb, 5, none⟩ (ptr bv)).heap[rb]? = _ := Joins.block_setCell (i := 5) b1 (ptr bv)
  have oth : ∀ i, i ≠ rb → ((w.setCell ⟨rb, 2, none⟩ (.int .i64 2)).setCell ⟨rb, 5, none⟩ (ptr bv)).heap[i]? = w.heap[i]? := fun i hi => (setCell_block _ _ _ _ hi).trans (setCell_block _ _ _ _ hi)
  obtain ⟨R, F⟩ := h.turn (w' := (w.setCell ⟨rb, 2, none⟩ (.int .i64 2)).setCell ⟨rb, 5, none⟩ (ptr bv)) (md' := .tl t) (ws' := s.ws) b2 rfl rfl rfl (by simp [World.setCell]) (fun i _ hi => oth i hi) ⟨rfl, hv⟩ (c.kept (Le.refl G) (fun g hg => oth g (fun e => by rw [e, h.rt] at hg; cases hg))) d
  exact ⟨rfl, G, F, R⟩
theorem evaluates_any (h : Run w G rb mb mv s sh) {x : X} {e : Env} {ux un : Value} (hx : pExp G x ux) (hn : pEnv G e un) : Calls Tryz.prog 71 #[ptr rb, ux, un] w (Out w G rb mb mv { s with md := .ev x e } sh) := by
  obtain ⟨nx, vx, vn, vo, wr, vw, cs, a, b, c, d⟩ := h.r
  have H := Hid.mk (And.intro h (And.intro a (And.intro c (And.intro d (And.intro hx hn)))))
  obtain ⟨bx, rfl, _⟩ := hx
  obtain ⟨bn, rfl, _⟩ := hn
  have c2 := a.cell 2
  have c3 := a.cell 3
  have c4 := a.cell 4
  have z2 : w.frozen? ⟨rb, 2, none⟩ = false := Joins.unfrozen_of_block a 2
  have z3 : w.frozen? ⟨rb, 3, none⟩ = false := Joins.unfrozen_of_block a 3
  have z4 : w.frozen? ⟨rb, 4, none⟩ = false := Joins.unfrozen_of_block a 4
  clear h a b c d
  go_enter Tryz.func71, Tryz.ntmps71
  go_wp2
  go_end0
  obtain ⟨h, a, c, d, hx, hn⟩ := H.out
  have b1 : (w.setCell ⟨rb, 2, none⟩ (.int .i64 0)).heap[rb]? = _ := Joins.block_setCell (i := 2) a (.int .i64 0)
  have b2 : ((w.setCell ⟨rb, 2, none⟩ (.int .i64 0)).setCell ⟨rb, 3, none⟩ (ptr bx)).heap[rb]? = _ := Joins.block_setCell (i := 3) b1 (ptr bx)
  have b3 : (((w.setCell ⟨rb, 2, none⟩ (.int .i64 0)).setCell ⟨rb, 3, none⟩ (ptr bx)).setCell ⟨rb, 4, none⟩ (ptr bn)).heap[rb]? = _ := Joins.block_setCell (i := 4) b2 (ptr bn)
  have oth : ∀ i, i ≠ rb → (((w.setCell ⟨rb, 2, none⟩ (.int .i64 0)).setCell ⟨rb, 3, none⟩ (ptr bx)).setCell ⟨rb, 4, none⟩ (ptr bn)).heap[i]? = w.heap[i]? := fun i hi => (setCell_block _ _ _ _ hi).trans ((setCell_block _ _ _ _ hi).trans (setCell_block _ _ _ _ hi))
  obtain ⟨R, F⟩ := h.turn (w' := ((w.setCell ⟨rb, 2, none⟩ (.int .i64 0)).setCell ⟨rb, 3, none⟩ (ptr bx)).setCell ⟨rb, 4, none⟩ (ptr bn)) (md' := .ev x e) (ws' := s.ws) b3 rfl rfl rfl (by simp [World.setCell]) (fun i _ hi => oth i hi) ⟨rfl, hx, hn⟩ (c.kept (Le.refl G) (fun g hg => oth g (fun e => by rw [e, h.rt] at hg; cases hg))) d
  exact ⟨rfl, G, F, R⟩
end
end Go.Proofs.YtbajpejnnfacbaaGreatDoor.Lz
