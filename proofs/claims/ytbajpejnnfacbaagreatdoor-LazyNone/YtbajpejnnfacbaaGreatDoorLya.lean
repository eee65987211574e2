/- Package lazy: the scope of a let. -/
import Derived.Test.YtbajpejnnfacbaaGreatDoorLzw
namespace Go.Proofs.YtbajpejnnfacbaaGreatDoor.Lz
open Go.RowKit
set_option linter.unusedVariables false
set_option linter.unusedSimpArgs false


theorem layP_snoc (e : Env) : ∀ (l : List Bd) (b : Bd) (i : Nat) (th : List T), layP e (l ++ [b]) i th = (boundP e b (layP e l i th)).2.set (i + l.length) (boundP e b (layP e l i th)).1
  | [], b, i, th => rfl
  | c :: r, b, i, th => by
    rw [List.cons_append, layP, layP_snoc e r b (i + 1), layP, List.length_cons, show i + 1 + r.length = i + (r.length + 1) by omega]
theorem okBs_get {ar : List Nat} {sh : List Nat} : ∀ {l : List Bd}, okBs ar sh l → ∀ i (h : i < l.length), ∃ cl a x, l[i]'h = .mk cl a x ∧ ((cl = 3 ↔ 0 < a) ∧ a ≤ 8 ∧ (cl = 1 → isConX x) ∧ (cl = 2 → isIntX x) ∧ okX ar (pushN a sh) x ∧ sh.length + 1 ≤ 1000000000)
  | [], _, i, h => absurd h (Nat.not_lt_zero i)
  | .mk cl a x :: r, ok, 0, h => by simp only [okBs] at ok; exact ⟨cl, a, x, rfl, ok.1⟩
  | .mk cl a x :: r, ok, i + 1, h => by
    simp only [okBs] at ok
    obtain ⟨c, d, y, e, k⟩ := okBs_get ok.2 i (by simpa using h)
    exact ⟨c, d, y, by simpa using e, k⟩
theorem okBs_take {ar : List Nat} {sh : List Nat} : ∀ {l : List Bd} (i : Nat), okBs ar sh l → okBs ar sh (l.take i)
  | [], i, h => by simp [okBs]
  | .mk cl a x :: r, 0, h => by simp [okBs]
  | .mk cl a x :: r, i + 1, h => by
    simp only [okBs] at h
    simp only [List.take_succ_cons, okBs]
    exact ⟨h.1, okBs_take i h.2⟩
theorem bdC_get {G : Gm} : ∀ {l : List Bd} {c : List Value}, bdC G l c → ∀ i (h : i < l.length), ∀ cl a x, l[i]'h = .mk cl a x → ∃ b, G b = some (.form a x) ∧ c[i * 2]? = some (.int .i64 cl) ∧ c[i * 2 + 1]? = some (ptr b)
  | [], _, _, i, h, _, _, _, _ => absurd h (Nat.not_lt_zero i)
  | .mk cl a x :: r, _, hc, 0, h, _, _, _, e => by
    obtain ⟨v, c2, rfl, ⟨b, rfl, hb⟩, k⟩ := hc
    cases e
    exact ⟨b, hb, rfl, rfl⟩
  | .mk cl a x :: r, _, hc, i + 1, h, cl', a', x', e => by
    obtain ⟨v, c2, rfl, ⟨b, rfl, hb⟩, k⟩ := hc
    obtain ⟨b', h1, h2, h3⟩ := bdC_get k i (by simpa using h) cl' a' x' (by simpa using e)
    refine ⟨b', h1, ?_, ?_⟩
    · rw [show (i + 1) * 2 = i * 2 + 1 + 1 by omega]; simpa using h2
    · rw [show (i + 1) * 2 + 1 = i * 2 + 1 + 1 + 1 by omega]; simpa using h3
section
variable {w w' : World} {G G' : Gm} {th : List T} {rows : List (List Nat)}
set_option maxRecDepth 100000 in
set_option maxHeartbeats 8000000 in
theorem group_any {ar : List Nat} (h : Rep w G th rows) {b : Nat} {e : Env} (hb : G b = some (.env e)) (he : okE th.length e) (bs : List Bd) {v : Value} (hv : pBinds G bs v) (h0 : bs.length ≠ 0) (ok : okBs ar (bs.length :: shE e) bs) (hen : e.length + 1 ≤ 1000000000) :
    Calls Tryz.prog 72 #[ptr b, v] w fun r w' => ∃ u G', r = .returned u ∧ pEnv G' (groupE e bs th) u ∧ Fx G G' w w' ∧ Rep w' G' (groupT e bs th) rows := by
  obtain ⟨i0, hi0⟩ : ∃ i, Tryz.prog.info? 78 = some i := by
    have := info78
    cases q : Tryz.prog.info? 78 with
    | none => rw [q] at this; cases this
    | some i => exact ⟨i, rfl⟩
  have hz : i0.zero = some (.pointer none) ∧ i0.size = 1 ∧ i0.bytes = 8 := by
    have := info78
    rw [hi0] at this
    simpa using this
  obtain ⟨ga, cap, rfl, hcap, h9, hg⟩ := hv
  obtain ⟨n, hn⟩ : ∃ n, bs.length = n := ⟨_, rfl⟩
  have mk := run_make (P := Tryz.prog) w 84 78 i0 _ Tryz.underlying84 hi0 hz.1 .i64 .i64 (n : Int) n (by omega) (Int.le_refl _) (by rw [hz.2.2]; omega) (by omega)
  rw [hz.2.1] at mk
  simp only [Int.toNat_natCast, Nat.mul_one] at mk
  obtain ⟨c0, hc0⟩ : ∃ c, c = madeCells (Value.pointer none).cells n := ⟨_, rfl⟩
  have sz0 : c0.size = n := by rw [hc0]; exact size_madeCells _ _
  rw [← hc0] at mk
  clear hc0 hz hi0 i0
  have P0 := PartRow.made w G n (h.free (Nat.le_refl _)) c0 sz0
  have R0 := h.below (Joins.below_alloc1 w (.cells c0 78))
  have F0 : Fx G G w (w.alloc (.cells c0 78)) := Fx.of_below (Joins.below_alloc1 w _)
  have HN := Hid.mk hn
  have HG := Hid.mk (hg h0)
  have HH := Hid.mk (And.intro h (And.intro hb (And.intro he (And.intro ok hen))))
  have H0 := Hid.mk (And.intro P0 (And.intro F0 R0))
  rw [hn] at hcap h9 h0
  clear hn hg h hb he ok P0 R0 F0
  rw [HN.out]
  go_enter Tryz.func72, Tryz.ntmps72
  go_wp2
  go_loopw [15, 6] (fun c d wr => ∃ i : Nat, c = .int .i64 i ∧ i ≤ n ∧ ∃ Gr, Hid (PartRow wr Gr w.heap.size n (List.range' th.length i) ∧ Fx G Gr w wr ∧ Rep wr Gr (th ++ List.replicate i (.num 0)) rows)) (fun c _ _ => n - (intOf c).toNat)
  case atStart => exact ⟨0, rfl, Nat.zero_le _, G, by simpa using H0⟩
  case round =>
    obtain ⟨i, rfl, hi, Gr, HR⟩ := hrel
    by_cases hlt : i < n
    · obtain ⟨cr, XR, zR, tR⟩ := HR.out.1.blk
      have hltI : (i : Int) < n := by omega
      obtain ⟨ui, hui⟩ : ∃ u, cr[i]? = some u := ⟨_, Array.getElem?_eq_getElem (by omega)⟩
      have K8 := Joins.below_alloc1 wr (.cells (numC 0) 91)
      have x8 := later' XR K8
      have k0 : (wr.alloc (.cells (numC 0) 91)).cell? ⟨w.heap.size, i, none⟩ = some ui := (Joins.cell_of_block x8 i).trans hui
      have k1 : (wr.alloc (.cells (numC 0) 91)).frozen? ⟨w.heap.size, i, none⟩ = false := Joins.unfrozen_of_block x8 i
      have HX8 := Hid.mk (And.intro x8 (And.intro K8 (And.intro zR tR)))
      have gsz : Hid (w.heap.size < wr.heap.size) := ⟨lt_of_block XR⟩
      clear XR zR tR x8 K8 hui
      go_wp2
      have hb8 : (wr.alloc (.cells (numC 0) 91)).heap[wr.heap.size]? = some (.cells (numC 0) 91 (0, 0)) := heap_alloc_new wr _
      obtain ⟨PR, FR, RR⟩ := HR.out
      have fr : Gr wr.heap.size = none := RR.free (Nat.le_refl _)
      have le := le_tag fr (.thing (th ++ List.replicate i (T.num 0)).length)
      have tl : (th ++ List.replicate i (T.num 0)).length = th.length + i := by simp
      have g0 := gsz.out
      have s1 := (RR.below HX8.out.2.1).thing fr hb8 (t := .num 0) rfl
      have nb : ∀ x, x ≠ w.heap.size → ((wr.alloc (.cells (numC 0) 91)).setCell ⟨w.heap.size, i, none⟩ (ptr wr.heap.size)).heap[x]? = (wr.alloc (.cells (numC 0) 91)).heap[x]? := fun x hx => setCell_block _ _ _ _ hx
      have ft : Lz.tag Gr wr.heap.size (.thing (th ++ List.replicate i (T.num 0)).length) w.heap.size = none := by rw [tag_ne _ _ (by omega)]; exact PR.free
      refine ⟨⟨i + 1, by go_num, by omega, Lz.tag Gr wr.heap.size (.thing (th ++ List.replicate i (T.num 0)).length), ⟨⟨ft, ?_⟩, ?_, ?_⟩⟩, by simp [intOf]; omega⟩
      · refine ⟨_, Joins.block_setCell (i := i) HX8.out.1 _, by simp; exact HX8.out.2.2.1, fun k u hk => ?_⟩
        rw [List.range'_1_concat] at hk
        by_cases q : k = i
        · subst q
          rw [List.getElem?_append_right (by simp), List.length_range', Nat.sub_self] at hk
          simp at hk
          subst hk
          exact ⟨ptr wr.heap.size, by simp [HX8.out.2.2.1, hlt], wr.heap.size, rfl, by rw [tag_self, tl]⟩
        · have ki : k < i := by
            have := (List.getElem?_eq_some_iff.1 hk).1
            simp at this
            omega
          rw [List.getElem?_append_left (by simpa using ki)] at hk
          obtain ⟨v, hv, pv⟩ := HX8.out.2.2.2 k u hk
          exact ⟨v, by rw [Array.getElem?_setIfInBounds_ne (fun e => q e.symm)]; exact hv, pT.le le pv⟩
      · exact FR.more HX8.out.2.1.os HX8.out.2.1.tape HX8.out.2.1.output (by have := HX8.out.2.1.size; simp [World.setCell]) (fun x hx => (nb x (by omega)).trans (HX8.out.2.1.block x (by omega))) le (fun x hx q => by rw [tag_ne _ _ (by omega)]; exact q)
      · rw [List.replicate_succ', ← List.append_assoc]
        exact s1.later (by simp [World.setCell]) (fun x ty hx => nb x (fun e => by rw [e, ft] at hx; cases hx))
    · obtain rfl : i = n := by omega
      obtain ⟨PR, FR, RR⟩ := HR.out
      obtain ⟨R1, P1⟩ := (PR.full (by simp)).row RR
      have fr := PR.free
      have P1' := P1 i (by simp)
      rw [List.length_range'] at P1'
      have F1 : Fx G (Lz.tag Gr w.heap.size (.row (List.range' th.length i))) w wr := FR.more rfl rfl rfl (Nat.le_refl _) (fun _ _ => rfl) (le_tag fr _) (fun x hx q => by rw [tag_ne _ _ (by omega)]; exact q)
      have WI := within_any R1 (F1.le _ _ HH.out.2.1) P1' HH.out.2.2.2.2
      have ei : inE e (List.range' th.length i) = groupE e bs th := by unfold inE groupE; rw [List.length_range', if_neg h0, HN.out]
      rw [ei] at WI
      have HP := Hid.mk (And.intro P1' F1)
      have HGI := Hid.mk (show Lz.tag Gr w.heap.size (.row (List.range' th.length i)) w.heap.size = _ from tag_self _ _ _)
      clear PR FR RR R1 P1 P1' fr F1 ei HR
      go_wp2_with (go_at_call 100; refine WI.mono ?_; rintro r w8 ⟨u8, G8, rfl, P8, F8, R8⟩; obtain ⟨b8, rfl, hb8⟩ := P8; have H8 := Hid.mk (And.intro hb8 (And.intro F8 R8)); clear hb8 F8 R8)
      go_loopw [29, 8, 9] (fun c d f wr => ∃ j : Nat, c = .int .i64 j ∧ j ≤ i ∧ ∃ Gr, Hid (Fx G8 Gr w8 wr ∧ Rep wr Gr (layP (groupE e bs th) (bs.take j) th.length (th ++ List.replicate i (.num 0))) rows)) (fun c _ _ _ => i - (intOf c).toNat)
      case atStart => exact ⟨0, rfl, Nat.zero_le _, G8, ⟨Fx.refl _ _, by rw [List.take_zero, layP]; exact H8.out.2.2⟩⟩
      case round =>
        obtain ⟨j, rfl, hj, Gq, HQ⟩ := hrel
        by_cases jlt : j < i
        · have jl : j < bs.length := by rw [HN.out]; exact jlt
          obtain ⟨gq, hgq, hgb⟩ := HG.out
          subst hgq
          obtain ⟨FQ, RQ⟩ := HQ.out
          have LE : Le G Gq := (HP.out.2.le.trans H8.out.2.1.le).trans FQ.le
          obtain ⟨_, vs, hvs, hvc⟩ := RQ.cont gq _ (LE _ _ hgb)
          obtain ⟨cl, a, x, ebj, okj⟩ := okBs_get HH.out.2.2.2.1 j jl
          obtain ⟨fb, hfb, hv0, hv1⟩ := bdC_get hvs j jl cl a x ebj
          have d0 := hvc _ _ hv0
          have d1 := hvc _ _ hv1
          have hrow : Gq w.heap.size = some (.row (List.range' th.length i)) := FQ.le _ _ (H8.out.2.1.le _ _ HGI.out)
          obtain ⟨_, hrc⟩ := RQ.cont _ _ hrow
          obtain ⟨vt, hvt, bt, rfl, hbt⟩ := hrc j (th.length + j) (by rw [List.getElem?_range' jlt]; simp)
          have sn : bs.take (j + 1) = bs.take j ++ [bs[j]] := List.take_succ_eq_append_getElem jl
          have ls := layP_snoc (groupE e bs th) (bs.take j) bs[j] th.length (th ++ List.replicate i (.num 0))
          rw [← sn, ebj, List.length_take, Nat.min_eq_left (Nat.le_of_lt jl)] at ls
          have HLS := Hid.mk ls
          have okE0 : okE (layP (groupE e bs th) (bs.take j) th.length (th ++ List.replicate i (.num 0))).length (groupE e bs th) := by
            have e0 : okE (th ++ List.replicate i (T.num 0)).length (groupE e bs th) := groupE_ok HH.out.2.2.1 HH.out.2.2.2.2 (by rw [HN.out]; simp)
            obtain ⟨l', q1, q2, _⟩ := layP_ok (ar := ar) th (bs.take j) th.length (List.replicate i (.num 0)) e0 (by rw [shE_group]; exact okBs_take j HH.out.2.2.2.1) (Nat.le_refl _) (by simp; omega) (fun t ht => by obtain ⟨_, rfl⟩ := List.mem_replicate.1 ht; exact ⟨by decide, by decide⟩)
            rw [q1]
            exact e0.mono (by simp at q2 ⊢; omega)
          have tlt : th.length + j < (layP (groupE e bs th) (bs.take j) th.length (th ++ List.replicate i (.num 0))).length := RQ.thlt hbt
          generalize layP (groupE e bs th) (bs.take j) th.length (th ++ List.replicate i (.num 0)) = thq at *
          obtain ⟨W, hW⟩ : ∃ W, W = wr.alloc (.cells #[.int .i64 cl, ptr fb] 180) := ⟨_, rfl⟩
          have KW : Below wr.heap.size wr W := by rw [hW]; exact Joins.below_alloc1 wr _
          have XW : Bx W wr.heap.size #[.int .i64 cl, ptr fb] 180 := by rw [hW]; exact heap_alloc_new wr _
          have BD := bound_any (ar := ar) ((RQ.below KW).later (w' := W.drew) (Nat.le_refl _) (fun _ _ _ => rfl)) (FQ.le _ _ H8.out.1) hfb okE0 (cl := cl) (by rw [shE_group]; exact okj)
          have x0 := XW.cell 0
          have x1 := XW.cell 1
          have t0 := (World.cell?_of_block (KW.block w.heap.size (World.block_lt_of_cell? _ _ hvt))).trans hvt
          have btlt := RQ.lt hbt
          have rlt := RQ.lt hrow
          have m1 : ¬ w.heap.size = bt := fun z => by rw [z, hbt] at hrow; cases hrow
          have m2 : ¬ bt = w.heap.size := fun z => m1 z.symm
          have m3 : ¬ wr.heap.size = bt := by omega
          have m4 : ¬ bt = wr.heap.size := by omega
          have HK := Hid.mk (And.intro KW (And.intro XW (And.intro hbt (And.intro hrow hvt))))
          have jI : (j : Int) < i := by omega
          clear hvs hvc hv0 hv1 hrc sn ls okE0 okj hfb KW XW hbt hrow ebj LE
          generalize boundP (groupE e bs th) (.mk cl a x) thq = bp at *
          go_wp2
          rw [← hW]
          clear hW
          go_region_held3 (fun w' => w'.cell? ⟨w.heap.size, j, none⟩ = some (ptr bt) ∧ w'.cell? ⟨wr.heap.size, 0, none⟩ = some (.int .i64 cl) ∧ w'.cell? ⟨wr.heap.size, 1, none⟩ = some (ptr fb)) (go_keep) (first
            | (go_at_call 101; refine BD.mono ?_; rintro r w9 ⟨c9, G9, rfl, F9, R9, T9⟩; obtain ⟨is', n', f', nm', o', ga', gn', gc', it', wr', e9⟩ := isT_shape (T9 0); subst e9; obtain ⟨tv, cc, _, hbc, hbt9⟩ := R9.cont bt _ (F9.le _ _ HK.out.2.2.1); obtain ⟨is, nn, tf, tnm, to, tga, tgn, tgc, tit, twr, ecc⟩ := isT_shape hbt9; subst ecc; have B9 : Bx w9 bt (shT is nn tf tnm to tga tgn tgc tit twr) 91 := hbc; have u0 : w9.cell? ⟨bt, 0, none⟩ = some (.int .i64 is) := (B9).cell 0; have uz0 : w9.frozen? ⟨bt, 0, none⟩ = false := Joins.unfrozen_of_block B9 0; have u1 : w9.cell? ⟨bt, 1, none⟩ = some (.int .i64 nn) := (B9).cell 1; have uz1 : w9.frozen? ⟨bt, 1, none⟩ = false := Joins.unfrozen_of_block B9 1; have u2 : w9.cell? ⟨bt, 2, none⟩ = some (.pointer tf) := (B9).cell 2; have uz2 : w9.frozen? ⟨bt, 2, none⟩ = false := Joins.unfrozen_of_block B9 2; have u3 : w9.cell? ⟨bt, 3, none⟩ = some (.pointer tnm) := (B9).cell 3; have uz3 : w9.frozen? ⟨bt, 3, none⟩ = false := Joins.unfrozen_of_block B9 3; have u4 : w9.cell? ⟨bt, 4, none⟩ = some (.pointer to) := (B9).cell 4; have uz4 : w9.frozen? ⟨bt, 4, none⟩ = false := Joins.unfrozen_of_block B9 4; have u5 : w9.cell? ⟨bt, 5, none⟩ = some (.slice tga tgn tgc) := (B9).cell 5; have uz5 : w9.frozen? ⟨bt, 5, none⟩ = false := Joins.unfrozen_of_block B9 5; have u6 : w9.cell? ⟨bt, 6, none⟩ = some (.map tit) := (B9).cell 6; have uz6 : w9.frozen? ⟨bt, 6, none⟩ = false := Joins.unfrozen_of_block B9 6; have u7 : w9.cell? ⟨bt, 7, none⟩ = some (.int .i64 twr) := (B9).cell 7; have uz7 : w9.frozen? ⟨bt, 7, none⟩ = false := Joins.unfrozen_of_block B9 7; have X9 : Bx w9 wr.heap.size #[.int .i64 cl, ptr fb] 180 := (F9.block _ (lt_of_block HK.out.2.1) (by rw [RQ.free (Nat.le_refl _)]; trivial)).trans HK.out.2.1; have s0 : w9.cell? ⟨wr.heap.size, 0, none⟩ = some (.int .i64 cl) := X9.cell 0; have s1 : w9.cell? ⟨wr.heap.size, 1, none⟩ = some (ptr fb) := X9.cell 1; have s2 : w9.cell? ⟨w.heap.size, j, none⟩ = some (ptr bt) := (World.cell?_of_block (F9.block w.heap.size (Nat.lt_of_lt_of_le rlt HK.out.1.size) (by rw [HK.out.2.2.2.1]; trivial))).trans t0; have H9 := Hid.mk (And.intro F9 (And.intro R9 (And.intro T9 B9))); clear F9 R9 T9 B9 hbc hbt9 X9))
          all_goals go_wp2
          obtain ⟨F9, R9, T9, B9⟩ := H9.out
          have bt9 := F9.le _ _ HK.out.2.2.1
          have hb9 := store8 B9 (.int .i64 is') (.int .i64 n') (.pointer f') (.pointer nm') (.pointer o') (.slice ga' gn' gc') (.map it') (.int .i64 wr')
          have ho9 := store8_oth w9 bt (.int .i64 is') (.int .i64 n') (.pointer f') (.pointer nm') (.pointer o') (.slice ga' gn' gc') (.map it') (.int .i64 wr')
          obtain ⟨W9, hW9⟩ : ∃ x : World, x = ((((((((w9.setCell ⟨bt, 0, none⟩ (.int .i64 is')).setCell ⟨bt, 1, none⟩ (.int .i64 n')).setCell ⟨bt, 2, none⟩ (.pointer f')).setCell ⟨bt, 3, none⟩ (.pointer nm')).setCell ⟨bt, 4, none⟩ (.pointer o')).setCell ⟨bt, 5, none⟩ (.slice ga' gn' gc')).setCell ⟨bt, 6, none⟩ (.map it')).setCell ⟨bt, 7, none⟩ (.int .i64 wr')) := ⟨_, rfl⟩
          have o9 : W9.os = w9.os ∧ W9.tape = w9.tape ∧ W9.output = w9.output ∧ W9.heap.size = w9.heap.size := store8_env _ _ _ _ _ _ _ _ _ _ _ hW9
          rw [← hW9] at hb9 ho9
          rw [← hW9]
          clear hW9
          have ti : isT W9 G9 (th.length + j) bp.1 (shT is' n' f' nm' o' ga' gn' gc' it' wr') := isT.le (Le.refl G9) (fun m hm => ho9 m (fun z => by rw [z, bt9] at hm; cases hm)) _ _ (T9 _)
          refine ⟨⟨j + 1, by go_num, by omega, G9, ⟨?_, ?_⟩⟩, by simp [intOf]; omega⟩
          · exact (FQ.trans ((Fx.of_below HK.out.1).trans ((show Fx Gq Gq W W.drew from ⟨rfl, rfl, rfl, Nat.le_refl _, fun _ _ _ => rfl, Le.refl _, fun _ _ q => q⟩).trans F9))).trans (Fx.of_own bt9 (by simp [fixd]) o9.1 o9.2.1 o9.2.2.1 (Nat.le_of_eq o9.2.2.2.symm) (fun i _ hi => ho9 i hi))
          · rw [HLS.out]
            exact R9.put bt9 (Nat.le_of_eq o9.2.2.2.symm) hb9 ti (fun x ty hx hne _ => ho9 x hne)
        · obtain rfl : j = i := by omega
          go_wp2
          go_ret
          obtain ⟨FQ, RQ⟩ := HQ.out
          rw [List.take_of_length_le (by rw [HN.out]; omega)] at RQ
          refine ⟨_, Gq, rfl, ⟨b8, rfl, FQ.le _ _ H8.out.1⟩, HP.out.2.trans (H8.out.2.1.trans FQ), ?_⟩
          unfold groupT
          rw [HN.out]
          exact RQ
end
end Go.Proofs.YtbajpejnnfacbaaGreatDoor.Lz

/- Package lazy: what is asked of a thing; an array's items. -/
namespace Go.Proofs.YtbajpejnnfacbaaGreatDoor.Lz
open Go.RowKit
set_option linter.unusedVariables false
set_option linter.unusedSimpArgs false


theorem pig : ∀ (N : Nat) (l : List Nat), l.Nodup → (∀ x ∈ l, x < N) → l.length ≤ N
  | 0, l, _, h => by
    cases l with
    | nil => simp
    | cons a r => exact absurd (h a (List.mem_cons_self ..)) (Nat.not_lt_zero a)
  | N + 1, l, nd, h => by
    have ih := pig N (l.erase N) (nd.erase N) (fun x hx => by
      have h1 := h x (List.mem_of_mem_erase hx)
      have h2 : x ≠ N := fun e => by
        rw [e] at hx
        exact (List.Nodup.not_mem_erase nd) hx
      omega)
    by_cases q : N ∈ l
    · rw [List.length_erase_of_mem q] at ih; omega
    · rw [List.erase_of_not_mem q] at ih; omega
set_option maxRecDepth 100000 in
/-- a map whose keys are numbers below N has no more than N entries -/
theorem VM.fit {w : World} {m n N : Nat} {f : Lit → Option Value} (h : VM 2 w m n f) (hN : ∀ kl, (f kl).isSome = true → ∃ i : Nat, i < N ∧ kl = .int .i64 i) : VM 2 w m N f := by
  obtain ⟨D, hD, q⟩ := h
  obtain ⟨L, hL, nd⟩ := hD.tidy lawJ
  have K : ∀ p ∈ L, ∃ i : Nat, i < N ∧ p.1 = .int .i64 i := fun p hp => by
    refine hN p.1 ?_
    rw [← (q p.1).1, hL, Maps.has_eq, List.any_eq_true]
    refine ⟨p, hp, ?_⟩
    obtain ⟨es, clock, _, F, _, e⟩ := hD
    have key : WideAt.IsKeyLit p.1 := by
      rw [hL] at e
      injection e with e
      rw [e] at hp
      obtain ⟨x, hx, rfl⟩ : ∃ x ∈ es.toList, WideElems.rg Tryz.prog 2 vEl x = p := by
        have := (WideShapes.sorted_perm (es.toList.map (WideElems.rg Tryz.prog 2 vEl))).mem_iff.1 hp
        simpa using this
      obtain ⟨y, hy⟩ := F.reads x hx
      have : WideElems.rg Tryz.prog 2 vEl x = y := by unfold WideElems.rg; rw [hy]; rfl
      rw [this]
      exact lawJ.key (WideElems.rd_key hy)
    exact WideAt.sameKey_self key
  have sz : L.length ≤ N := by
    have e1 : ∀ p ∈ L, p.1 = .int .i64 (match p.1 with | .int _ i => (i.toNat : Int) | _ => 0) := fun p hp => by
      obtain ⟨i, _, e⟩ := K p hp
      rw [e]; simp
    have := pig N (L.map fun p => match p.1 with | .int _ i => i.toNat | _ => 0) ?_ ?_
    · simpa using this
    · rw [List.nodup_iff_pairwise_ne, List.pairwise_map]
      refine nd.imp_of_mem (fun {a b} ha hb hne => ?_)
      obtain ⟨i, _, ea⟩ := K a ha
      obtain ⟨j, _, eb⟩ := K b hb
      rw [ea, eb] at hne ⊢
      simp only [Int.toNat_natCast]
      intro e
      exact hne (by rw [e])
    · intro x hx
      obtain ⟨p, hp, rfl⟩ := List.mem_map.1 hx
      obtain ⟨i, hi, e⟩ := K p hp
      rw [e]
      simpa using hi
  obtain ⟨es, clock, hb, F, hs, e⟩ := hD
  refine ⟨D, ⟨es, clock, hb, F, ?_, e⟩, q⟩
  rw [hL] at e
  injection e with e
  have := congrArg List.length e
  rw [length_sorted, List.length_map] at this
  simp at this
  omega
end Go.Proofs.YtbajpejnnfacbaaGreatDoor.Lz

/- Package lazy: what is asked of a thing; an array's items. -/
namespace Go.Proofs.YtbajpejnnfacbaaGreatDoor.Lz
open Go.RowKit
set_option linter.unusedVariables false
set_option linter.unusedSimpArgs false


theorem isT_heads {w : World} {G : Gm} {i : Nat} : ∀ {t : T} {c : Array Value}, isT w G i t c → ∃ f nm o ga gn gc it wr, c = shT (isOf t) (numOf t) f nm o ga gn gc it wr
  | .num _, _, e => ⟨_, _, _, _, _, _, _, _, e⟩
  | .con _ _, _, ⟨_, ⟨ga, cap, rfl, _⟩, e⟩ => ⟨_, _, _, _, _, _, _, _, e⟩
  | .fn _ _ _, _, ⟨_, _, ⟨b, rfl, _⟩, ⟨b2, rfl, _⟩, e⟩ => ⟨_, _, _, _, _, _, _, _, e⟩
  | .part _ _, _, ⟨_, _, ⟨b, rfl, _⟩, ⟨ga, cap, rfl, _⟩, e⟩ => ⟨_, _, _, _, _, _, _, _, e⟩
  | .var _, _, ⟨_, ⟨b, rfl, _⟩, e⟩ => ⟨_, _, _, _, _, _, _, _, e⟩
  | .arr _, _, ⟨_, _, _, ⟨b, rfl, _⟩, e, q⟩ => by
    rcases q with ⟨rfl, _⟩ | ⟨m, n, f, rfl, _⟩
    · exact ⟨_, _, _, _, _, _, _, _, e⟩
    · exact ⟨_, _, _, _, _, _, _, _, e⟩
  | .need _ _, _, ⟨_, _, _, ⟨b, rfl, _⟩, ⟨b2, rfl, _⟩, e⟩ => ⟨_, _, _, _, _, _, _, _, e⟩
  | .call _ _, _, ⟨_, _, ⟨b, rfl, _⟩, ⟨ga, cap, rfl, _⟩, e⟩ => ⟨_, _, _, _, _, _, _, _, e⟩
  | .work, _, e => ⟨_, _, _, _, _, _, _, _, e⟩
  | .failed _, _, e => ⟨_, _, _, _, _, _, _, _, e⟩
  | .same _, _, ⟨_, ⟨b, rfl, _⟩, e⟩ => ⟨_, _, _, _, _, _, _, _, e⟩
section
variable {w w' : World} {G G' : Gm} {th : List T} {rows : List (List Nat)}
theorem Rep.heads (h : Rep w G th rows) {b t : Nat} (hb : G b = some (.thing t)) : ∃ tv, th[t]? = some tv ∧ ∃ f nm o ga gn gc it wr, Bx w b (shT (isOf tv) (numOf tv) f nm o ga gn gc it wr) 91 := by
  obtain ⟨tv, c, e, hc, q⟩ := h.cont b _ hb
  obtain ⟨f, nm, o, ga, gn, gc, it, wr, rfl⟩ := isT_heads q
  exact ⟨tv, e, f, nm, o, ga, gn, gc, it, wr, hc⟩
theorem unlike_any (h : Rep w G th rows) {b t : Nat} (hb : G b = some (.thing t)) {tv : T} (ht : th[t]? = some tv) (need : Int) : Calls Tryz.prog 104 #[ptr b, .int .i64 need] w fun r w' => r = .returned (.int .i64 (unlikeT tv need)) ∧ w' = w := by
  obtain ⟨tv', e, f, nm, o, ga, gn, gc, it, wr, XB⟩ := h.heads hb
  rw [ht] at e
  cases e
  have c0 := XB.cell 0
  unfold unlikeT
  obtain ⟨k, hk⟩ : ∃ k, isOf tv = k := ⟨_, rfl⟩
  rw [hk] at c0 ⊢
  clear XB hk ht h hb
  by_cases n2 : need = 2
  · subst n2
    by_cases z : k = 0
    · subst z
      rw [if_neg (by simp), if_neg (by omega)]
      go_enter Tryz.func104, Tryz.ntmps104
      go_wp2
      go_ret
      exact ⟨rfl, rfl⟩
    · rw [if_pos ⟨rfl, z⟩]
      have q : ((k : Int) == 0) = false := beq_eq_false_iff_ne.2 (by omega)
      have q' : ((k : Int) != 0) = true := by simp; omega
      go_enter Tryz.func104, Tryz.ntmps104
      go_wp2
      go_ret
      exact ⟨rfl, rfl⟩
  · have g2 : (need == 2) = false := beq_eq_false_iff_ne.2 n2
    rw [if_neg (fun e => n2 e.1)]
    by_cases n3 : need = 3
    · subst n3
      by_cases z : k = 4
      · subst z
        rw [if_neg (by omega)]
        go_enter Tryz.func104, Tryz.ntmps104
        go_wp2
        go_ret
        exact ⟨rfl, rfl⟩
      · rw [if_pos (.inl ⟨rfl, z⟩)]
        have q : ((k : Int) == 4) = false := beq_eq_false_iff_ne.2 (by omega)
        have q' : ((k : Int) != 4) = true := by simp; omega
        go_enter Tryz.func104, Tryz.ntmps104
        go_wp2
        go_ret
        exact ⟨rfl, rfl⟩
    · have g3 : (need == 3) = false := beq_eq_false_iff_ne.2 n3
      by_cases n4 : need = 4
      · subst n4
        by_cases z : k = 5
        · subst z
          rw [if_neg (by omega)]
          go_enter Tryz.func104, Tryz.ntmps104
          go_wp2
          go_ret
          exact ⟨rfl, rfl⟩
        · rw [if_pos (.inr ⟨rfl, z⟩)]
          have q : ((k : Int) == 5) = false := beq_eq_false_iff_ne.2 (by omega)
          have q' : ((k : Int) != 5) = true := by simp; omega
          go_enter Tryz.func104, Tryz.ntmps104
          go_wp2
          go_ret
          exact ⟨rfl, rfl⟩
      · have g4 : (need == 4) = false := beq_eq_false_iff_ne.2 n4
        rw [if_neg (by omega)]
        go_enter Tryz.func104, Tryz.ntmps104
        go_wp2
        go_ret
        exact ⟨rfl, rfl⟩
theorem holds_any (h : Rep w G th rows) {b t : Nat} (hb : G b = some (.thing t)) {tv : T} (ht : th[t]? = some tv) (i : Int) : Calls Tryz.prog 112 #[ptr b, .int .i64 i] w fun r w' => r = .returned (.bool (decide (0 ≤ i ∧ i < numOf tv))) ∧ w' = w := by
  obtain ⟨tv', e, f, nm, o, ga, gn, gc, it, wr, XB⟩ := h.heads hb
  rw [ht] at e
  cases e
  have c1 := XB.cell 1
  obtain ⟨k, hk⟩ : ∃ k, numOf tv = k := ⟨_, rfl⟩
  rw [hk] at c1 ⊢
  clear XB hk ht h hb
  by_cases z : 0 ≤ i
  · have g : decide (0 ≤ i) = true := decide_eq_true z
    cases q : decide (i < k)
    · have q2 : decide (0 ≤ i ∧ i < k) = false := by simp at q ⊢; omega
      rw [q2]
      go_enter Tryz.func112, Tryz.ntmps112
      go_wp2
      go_ret
      exact ⟨rfl, rfl⟩
    · have q2 : decide (0 ≤ i ∧ i < k) = true := by simp at q ⊢; omega
      rw [q2]
      go_enter Tryz.func112, Tryz.ntmps112
      go_wp2
      go_ret
      exact ⟨rfl, rfl⟩
  · have g : decide (0 ≤ i) = false := decide_eq_false z
    have q2 : decide (0 ≤ i ∧ i < k) = false := by simp; omega
    rw [q2]
    go_enter Tryz.func112, Tryz.ntmps112
    go_wp2
    go_ret
    exact ⟨rfl, rfl⟩
theorem isI_nat {k : Nat} (h : k ≤ 1000000000) : isI (k : Int) := ⟨by omega, by omega⟩
theorem item_any (h : Rep w G th rows) {b t : Nat} (hb : G b = some (.thing t)) {l : List Nat} (ht : th[t]? = some (.arr l)) {k : Nat} (hk : k < l.length) (hl : l.length ≤ 1024) :
    Calls Tryz.prog 53 #[ptr b, .int .i64 k] w fun r w' => (∃ v, r = .returned v ∧ pT G (l.getD k 0) v) ∧ w' = w := by
  obtain ⟨tv, c, e, hc, q⟩ := h.cont b _ hb
  rw [ht] at e
  cases e
  obtain ⟨o, u, it, ⟨bo, rfl, ho⟩, rfl, q⟩ := q
  have XB : Bx w b _ 91 := hc
  have eg : l[k]? = some (l.getD k 0) := by rw [List.getD_eq_getElem?_getD, List.getElem?_eq_getElem hk]; rfl
  have c4 := XB.cell 4
  have c6 := XB.cell 6
  rcases q with ⟨rfl, q⟩ | ⟨m, n, f, rfl, gm, vm, hn, _, q⟩
  · have eu : l.getD k 0 = u := by rw [List.getD_eq_getElem?_getD, q, List.getElem?_replicate, if_pos hk]; rfl
    have hrun := Maps.look_nil (P := Tryz.prog) (w := w) true lawJ Tryz.underlying89 (zero78 w) (keyJ (isI_nat (k := k) (by omega)))
    simp only [if_true] at hrun
    rw [eu]
    have HO := Hid.mk ho
    clear XB hc ht h hb q eg eu ho
    go_enter Tryz.func53, Tryz.ntmps53
    go_wp2
    go_ret
    exact ⟨⟨_, rfl, bo, rfl, HO.out⟩, rfl⟩
  · have hrun := vm.look_ok lawJ Tryz.underlying89 (zero78 w) (keyJ (isI_nat (k := k) (by omega)))
    obtain ⟨bv, e1, hv⟩ := q k _ eg
    have HV := Hid.mk hv
    cases hf : f (.int .i64 k) with
    | none =>
      rw [hf] at hrun e1
      simp only [Option.getD_none, Option.isSome_none] at hrun e1
      cases e1
      clear XB hc ht h hb q eg ho vm gm hf hv
      go_enter Tryz.func53, Tryz.ntmps53
      go_wp2
      go_ret
      exact ⟨⟨_, rfl, bo, rfl, HV.out⟩, rfl⟩
    | some v =>
      rw [hf] at hrun e1
      simp only [Option.getD_some, Option.isSome_some] at hrun e1
      subst e1
      clear XB hc ht h hb q eg ho vm gm hf hv
      go_enter Tryz.func53, Tryz.ntmps53
      go_wp2
      go_ret
      exact ⟨⟨_, rfl, bv, rfl, HV.out⟩, rfl⟩
end
end Go.Proofs.YtbajpejnnfacbaaGreatDoor.Lz
