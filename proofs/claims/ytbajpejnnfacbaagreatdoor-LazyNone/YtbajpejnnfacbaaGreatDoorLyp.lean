/- Package lazy: atoms, binds and groups, and what the run owns stays. -/
import Derived.Test.YtbajpejnnfacbaaGreatDoorLyh
namespace Go.Proofs.YtbajpejnnfacbaaGreatDoor.Lz
open Go.RowKit
set_option linter.unusedVariables false
set_option linter.unusedSimpArgs false

/-- as Fx, and what the run owns has not turned -/
structure Fz (G G' : Gm) (w w' : World) : Prop where
  fx : Fx G G' w w'
  own : ∀ i k, G i = some (.own k) → i < w.heap.size → w'.heap[i]? = w.heap[i]?
section
variable {G G' G'' : Gm} {w w' w'' : World}
theorem Fz.le (h : Fz G G' w w') : Le G G' := h.fx.le
theorem Fz.size (h : Fz G G' w w') : w.heap.size ≤ w'.heap.size := h.fx.size
theorem Fz.new (h : Fz G G' w w') : ∀ i, i < w.heap.size → G i = none → G' i = none := h.fx.new
theorem Fz.block (h : Fz G G' w w') : ∀ i, i < w.heap.size → fixd (G i) → w'.heap[i]? = w.heap[i]? := h.fx.block
theorem Fz.os (h : Fz G G' w w') : w'.os = w.os := h.fx.os
theorem Fz.tape (h : Fz G G' w w') : w'.tape = w.tape := h.fx.tape
theorem Fz.output (h : Fz G G' w w') : w'.output = w.output := h.fx.output
theorem Fz.refl (G : Gm) (w : World) : Fz G G w w := ⟨Fx.refl G w, fun _ _ _ _ => rfl⟩
theorem Fz.drewL (G : Gm) (w : World) : Fz G G w w.drew := ⟨Fx.drewL G w, fun _ _ _ _ => rfl⟩
theorem Fz.trans (h : Fz G G' w w') (k : Fz G' G'' w' w'') : Fz G G'' w w'' := ⟨h.fx.trans k.fx, fun i j e l => (k.own i j (h.le _ _ e) (Nat.lt_of_lt_of_le l h.size)).trans (h.own i j e l)⟩
theorem Fz.of_below (h : Below w.heap.size w w') : Fz G G w w' := ⟨Fx.of_below h, fun i _ _ l => h.block i l⟩
theorem Fz.more (h : Fz G G' w w') (os : w''.os = w'.os) (tape : w''.tape = w'.tape) (output : w''.output = w'.output) (size : w'.heap.size ≤ w''.heap.size) (blk : ∀ i, i < w.heap.size → w''.heap[i]? = w'.heap[i]?) (le : Le G' G'') (new : ∀ i, i < w.heap.size → G' i = none → G'' i = none) : Fz G G'' w w'' :=
  ⟨h.fx.more os tape output size blk le new, fun i j e l => (blk i l).trans (h.own i j e l)⟩
theorem Fz.of_thing {b t : Nat} (hb : G b = some (.thing t)) (os : w'.os = w.os) (tape : w'.tape = w.tape) (output : w'.output = w.output) (size : w.heap.size ≤ w'.heap.size) (ho : ∀ i, i < w.heap.size → i ≠ b → w'.heap[i]? = w.heap[i]?) : Fz G G w w' :=
  ⟨Fx.of_own hb (by simp [fixd]) os tape output size ho, fun i j e l => ho i l (fun z => by rw [z, hb] at e; cases e)⟩
theorem Run.nextZ {rb mb : Nat} {mv : Mv} {s : St} {sh : Int} (h : Run w G rb mb mv s sh) (F : Fz G G' w w') {th' : List T} {rows' : List (List Nat)} (R : Rep w' G' th' rows') : Run w' G' rb mb mv { s with th := th', rows := rows' } sh :=
  h.next F.fx (fun b k e => F.own b k e (h.rep.lt e)) R
end
section
variable {w w' : World} {G G' : Gm} {th : List T} {rows : List (List Nat)}
set_option maxRecDepth 100000 in
set_option maxHeartbeats 4000000 in
theorem latoms_more (h : Rep w G th rows) {b : Nat} {e : Env} (hb : G b = some (.env e)) (he : okE th.length e) (l : List Am) {v : Value} (hv : pAtoms G l v) (ok : ∀ a ∈ l, okAm (shE e) a) :
    Calls Tryz.prog 68 #[ptr b, v] w fun r w' => ∃ g cap G', r = .returned (.slice (some ⟨g, 0, none⟩) l.length cap) ∧ l.length ≤ cap ∧ w.heap.size ≤ g ∧ NewRow w' G' g (atomsP e l th).1 ∧ Fz G G' w w' ∧ Rep w' G' (atomsP e l th).2 rows := by
  obtain ⟨i0, hi0⟩ : ∃ i, Tryz.prog.info? 78 = some i := by
    have := info78
    cases q : Tryz.prog.info? 78 with
    | none => rw [q] at this; cases this
    | some i => exact ⟨i, rfl⟩
  have hz : i0.zero = some (.pointer none) ∧ i0.size = 1 ∧ i0.bytes = 8 := by
    have := info78
    rw [hi0] at this
    simpa using this
  obtain ⟨ga, cap, rfl, hcap, h9, hg⟩ := hv
  obtain ⟨n, hn⟩ : ∃ n, l.length = n := ⟨_, rfl⟩
  have mk := run_make (P := Tryz.prog) w 84 78 i0 _ Tryz.underlying84 hi0 hz.1 .i64 .i64 (n : Int) n (by omega) (Int.le_refl _) (by rw [hz.2.2]; omega) (by omega)
  rw [hz.2.1] at mk
  simp only [Int.toNat_natCast, Nat.mul_one] at mk
  obtain ⟨c0, hc0⟩ : ∃ c, c = madeCells (Value.pointer none).cells n := ⟨_, rfl⟩
  have sz0 : c0.size = n := by rw [hc0]; exact size_madeCells _ _
  rw [← hc0] at mk
  clear hc0 hz hi0 i0
  have P0 := PartRow.made w G n (h.free (Nat.le_refl _)) c0 sz0
  have R0 := h.below (Joins.below_alloc1 w (.cells c0 78))
  have F0 : Fz G G w (w.alloc (.cells c0 78)) := Fz.of_below (Joins.below_alloc1 w _)
  have HN := Hid.mk hn
  have HG := Hid.mk hg
  have HH := Hid.mk (And.intro h (And.intro hb (And.intro he ok)))
  have H0 := Hid.mk (And.intro P0 (And.intro F0 R0))
  rw [hn] at hcap h9
  clear hn hg h hb he ok P0 R0 F0
  rw [HN.out]
  go_enter Tryz.func68, Tryz.ntmps68
  go_wp2
  go_loopw [13] (fun c wr => ∃ i : Nat, c = .int .i64 i ∧ i ≤ n ∧ ∃ Gr, Hid (PartRow wr Gr w.heap.size n (atomsP e (l.take i) th).1 ∧ Fz G Gr w wr ∧ Rep wr Gr (atomsP e (l.take i) th).2 rows)) (fun c _ => n - (intOf c).toNat)
  case atStart => exact ⟨0, rfl, Nat.zero_le _, G, by rw [List.take_zero]; exact H0⟩
  case round =>
    obtain ⟨i, rfl, hi, Gr, HR⟩ := hrel
    by_cases hlt : i < n
    · have il : i < l.length := by rw [HN.out]; exact hlt
      obtain ⟨ga0, rfl, hga⟩ := HG.out (by omega)
      obtain ⟨_, hat⟩ := HR.out.2.2.cont ga0 _ (HR.out.2.1.le _ _ hga)
      have hin : l[i] ∈ l := List.getElem_mem il
      have okA := HH.out.2.2.2 _ hin
      have cell : ∀ (j : Nat) u, (am4 l[i])[j]? = some u → wr.cell? ⟨ga0, i * 4 + j, none⟩ = some u := fun j u hj => hat _ _ (amC_get l i il j u hj)
      have sn : l.take (i + 1) = l.take i ++ [l[i]] := List.take_succ_eq_append_getElem il
      have ap := atomsP_snoc e (l.take i) l[i] th
      rw [← sn] at ap
      have HAP := Hid.mk ap
      have idl : (atomsP e (l.take i) th).1.length = i := by rw [atomsP_len, List.length_take, Nat.min_eq_left (by omega)]
      have thl : th.length ≤ (atomsP e (l.take i) th).2.length := by
        obtain ⟨l', e1, _⟩ := atomsP_th e (shE e) (l.take i) th (fun a ha => HH.out.2.2.2 a (List.mem_of_mem_take ha))
        rw [e1]; simp
      have HEL := Hid.mk (And.intro idl thl)
      obtain ⟨cr, XR, zR, tR⟩ := HR.out.1.blk
      have hltI : (i : Int) < n := by omega
      have hcI : (i : Int) < (cr.size : Int) := by rw [zR]; exact hltI
      generalize (atomsP e (l.take i) th).1 = ids at *
      generalize (atomsP e (l.take i) th).2 = thr at *
      have HXR := Hid.mk (And.intro XR (And.intro zR tR))
      generalize l[i] = a at *
      cases a with
      | name p =>
        have d0 := cell 0 _ rfl
        have d1 := cell 1 _ rfl
        have d2 := cell 2 _ rfl
        have d3 := cell 3 _ rfl
        rw [Nat.add_zero] at d0
        obtain ⟨ui, hui⟩ : ∃ u, cr[i]? = some u := ⟨_, Array.getElem?_eq_getElem (by omega)⟩
        obtain ⟨o1, ho1⟩ : ∃ o, Obj.cells #[.bool true, .int .i64 p.lev, .int .i64 p.idx, .int .i64 0] 170 = o := ⟨_, rfl⟩
        have K1 := Joins.below_alloc1 wr o1
        have NA := at_any (HR.out.2.2.below K1) (HR.out.2.1.le _ _ HH.out.2.1) p okA HH.out.2.2.1.2.2
        have HK1 := Hid.mk K1
        have HUI := Hid.mk hui
        clear cell hat okA sn ap idl thl XR zR tR hin K1 hui
        subst ho1
        go_wp2_with (go_at_call 69; refine NA.mono ?_; rintro r w8 ⟨⟨v8, rfl, P8⟩, B8⟩; obtain ⟨bv, rfl, gv⟩ := P8; have HX8 := Hid.mk (And.intro (later' HXR.out.1 (HK1.out.trans (Joins.below_le B8 HK1.out.size))) (HK1.out.trans (Joins.below_le B8 HK1.out.size))); have HGV := Hid.mk gv; have k0 : w8.cell? ⟨w.heap.size, i, none⟩ = some ui := (Joins.cell_of_block HX8.out.1 i).trans HUI.out; have k1 : w8.frozen? ⟨w.heap.size, i, none⟩ = false := Joins.unfrozen_of_block HX8.out.1 i; clear B8 gv)
        refine ⟨⟨i + 1, by go_num, by omega, Gr, ?_⟩, by simp [intOf]; omega⟩
        refine ⟨?_⟩
        rw [HAP.out]
        obtain ⟨PR, FR, RR⟩ := HR.out
        obtain ⟨idl, thl⟩ := HEL.out
        have gsz : w.heap.size < wr.heap.size := lt_of_block HXR.out.1
        have nb : ∀ x, x ≠ w.heap.size → (w8.setCell ⟨w.heap.size, i, none⟩ (ptr bv)).heap[x]? = w8.heap[x]? := fun x hx => setCell_block _ _ _ _ hx
        refine ⟨⟨PR.free, ?_⟩, ?_, ?_⟩
        · refine ⟨_, Joins.block_setCell (i := i) HX8.out.1 _, by simp; exact HXR.out.2.1, fun k u hk => ?_⟩
          simp only [atomsP] at hk
          by_cases q : k = i
          · subst q
            rw [List.getElem?_append_right (by omega), idl, Nat.sub_self] at hk
            simp at hk
            subst hk
            exact ⟨_, by simp [HXR.out.2.1, hlt], _, rfl, HGV.out⟩
          · have ki : k < ids.length := by
              have := (List.getElem?_eq_some_iff.1 hk).1
              simp at this
              omega
            rw [List.getElem?_append_left ki] at hk
            obtain ⟨v, hv, pv⟩ := HXR.out.2.2 k u hk
            exact ⟨v, by rw [Array.getElem?_setIfInBounds_ne (fun e => q e.symm)]; exact hv, pv⟩
        · exact FR.more HX8.out.2.os HX8.out.2.tape HX8.out.2.output (by have := HX8.out.2.size; simp [World.setCell]; omega) (fun x hx => (nb x (by omega)).trans (HX8.out.2.block x (by omega))) (Le.refl _) (fun x hx q => q)
        · exact (RR.below HX8.out.2).later (by simp [World.setCell]) (fun x ty hx => nb x (fun e => by rw [e, PR.free] at hx; cases hx))
      | num m =>
        have d0 := cell 0 _ rfl
        have d1 := cell 1 _ rfl
        have d2 := cell 2 _ rfl
        have d3 := cell 3 _ rfl
        rw [Nat.add_zero] at d0
        obtain ⟨ui, hui⟩ : ∃ u, cr[i]? = some u := ⟨_, Array.getElem?_eq_getElem (by omega)⟩
        obtain ⟨o1, ho1⟩ : ∃ o, Obj.cells #[.bool false, .int .i64 0, .int .i64 0, .int .i64 m] 170 = o := ⟨_, rfl⟩
        have K8 : Below wr.heap.size wr ((wr.alloc o1).alloc (.cells (numC m) 91)) := (Joins.below_alloc1 wr o1).alloc (Joins.below_alloc1 wr o1).size _
        have x8 := later' XR K8
        have k0 : ((wr.alloc o1).alloc (.cells (numC m) 91)).cell? ⟨w.heap.size, i, none⟩ = some ui := (Joins.cell_of_block x8 i).trans hui
        have k1 : ((wr.alloc o1).alloc (.cells (numC m) 91)).frozen? ⟨w.heap.size, i, none⟩ = false := Joins.unfrozen_of_block x8 i
        have NA := numbered_any (wr.alloc o1) m
        have HX8 := Hid.mk (And.intro x8 K8)
        have okm : isI m := okA
        clear cell hat okA sn ap idl thl XR zR tR hin x8 K8 hui
        subst ho1
        go_wp2_with (go_at_call 35; refine NA.mono ?_; rintro r w8 ⟨rfl, rfl⟩)
        obtain ⟨W8, hW8⟩ : ∃ W, W = (wr.alloc (.cells #[.bool false, .int .i64 0, .int .i64 0, .int .i64 m] 170)).alloc (.cells (numC m) 91) := ⟨_, rfl⟩
        have hb8 : W8.heap[wr.heap.size + 1]? = some (.cells (numC m) 91 (0, 0)) := by
          rw [hW8]
          have := heap_alloc_new (wr.alloc (.cells #[.bool false, .int .i64 0, .int .i64 0, .int .i64 m] 170)) (.cells (numC m) 91)
          rwa [World.size_alloc] at this
        rw [← hW8] at HX8 ⊢
        refine ⟨⟨i + 1, by go_num, by omega, Lz.tag Gr (wr.heap.size + 1) (.thing thr.length), ?_⟩, by simp [intOf]; omega⟩
        refine ⟨?_⟩
        rw [HAP.out]
        obtain ⟨PR, FR, RR⟩ := HR.out
        obtain ⟨idl, thl⟩ := HEL.out
        have fr : Gr (wr.heap.size + 1) = none := RR.free (by omega)
        have le := le_tag fr (.thing thr.length)
        have gsz : w.heap.size < wr.heap.size := lt_of_block HXR.out.1
        have s1 : Rep W8 (Lz.tag Gr (wr.heap.size + 1) (.thing thr.length)) (thr ++ [.num m]) rows := (RR.below HX8.out.2).thing fr hb8 rfl
        have nb : ∀ x, x ≠ w.heap.size → (W8.setCell ⟨w.heap.size, i, none⟩ (ptr (wr.heap.size + 1))).heap[x]? = W8.heap[x]? := fun x hx => setCell_block _ _ _ _ hx
        have ft : Lz.tag Gr (wr.heap.size + 1) (.thing thr.length) w.heap.size = none := by rw [tag_ne _ _ (by omega)]; exact PR.free
        refine ⟨⟨ft, ?_⟩, ?_, ?_⟩
        · refine ⟨_, Joins.block_setCell (i := i) HX8.out.1 _, by simp; exact HXR.out.2.1, fun k u hk => ?_⟩
          simp only [atomsP] at hk
          by_cases q : k = i
          · subst q
            rw [List.getElem?_append_right (by omega), idl, Nat.sub_self] at hk
            simp at hk
            subst hk
            exact ⟨_, by simp [HXR.out.2.1, hlt], _, rfl, tag_self _ _ _⟩
          · have ki : k < ids.length := by
              have := (List.getElem?_eq_some_iff.1 hk).1
              simp at this
              omega
            rw [List.getElem?_append_left ki] at hk
            obtain ⟨v, hv, pv⟩ := HXR.out.2.2 k u hk
            exact ⟨v, by rw [Array.getElem?_setIfInBounds_ne (fun e => q e.symm)]; exact hv, pT.le le pv⟩
        · exact FR.more HX8.out.2.os HX8.out.2.tape HX8.out.2.output (by have := HX8.out.2.size; simp [World.setCell]; omega) (fun x hx => (nb x (by omega)).trans (HX8.out.2.block x (by omega))) le (fun x hx q => by rw [tag_ne _ _ (by omega)]; exact q)
        · exact s1.later (by simp [World.setCell]) (fun x ty hx => nb x (fun e => by rw [e, ft] at hx; cases hx))
    · obtain rfl : i = n := by omega
      go_wp2
      go_ret
      have e1 : l.take i = l := List.take_of_length_le (by rw [HN.out]; omega)
      obtain ⟨PR, FR, RR⟩ := HR.out
      rw [e1] at PR RR
      exact ⟨_, _, Gr, rfl, Nat.le_refl _, Nat.le_refl _, PR.full (by rw [atomsP_len, HN.out]), FR, RR⟩
set_option maxRecDepth 100000 in
set_option maxHeartbeats 4000000 in
theorem bound_more {ar : List Nat} (h : Rep w G th rows) {b fb : Nat} {e : Env} {cl : Int} {a : Nat} {x : X} (hb : G b = some (.env e)) (hf : G fb = some (.form a x)) (he : okE th.length e)
    (ok : (cl = 3 ↔ 0 < a) ∧ a ≤ 8 ∧ (cl = 1 → isConX x) ∧ (cl = 2 → isIntX x) ∧ okX ar (pushN a (shE e)) x ∧ (shE e).length + 1 ≤ 1000000000) :
    Calls Tryz.prog 101 #[ptr b, .agg #[.int .i64 cl, ptr fb]] w fun r w' => ∃ c G', r = .returned (.agg c) ∧ Fz G G' w w' ∧ Rep w' G' (boundP e (.mk cl a x) th).2 rows ∧ ∀ i, isT w' G' i (boundP e (.mk cl a x) th).1 c := by
  obtain ⟨W, hW⟩ : ∃ W, W = (w.alloc (.cells #[.int .i64 cl, ptr fb] 180)).alloc (.cells (thC 0 0 nilp nilp nilp nils nilm 0) 91) := ⟨_, rfl⟩
  have KW : Below w.heap.size w W := by rw [hW]; exact (Joins.below_alloc1 w _).alloc (Joins.below_alloc1 w _).size _
  have XR : Bx W (w.heap.size + 1) (thC 0 0 nilp nilp nilp nils nilm 0) 91 := by
    rw [hW]
    have := heap_alloc_new (w.alloc (.cells #[.int .i64 cl, ptr fb] 180)) (.cells (thC 0 0 nilp nilp nilp nils nilm 0) 91)
    rwa [World.size_alloc] at this
  have XP : Bx W w.heap.size #[.int .i64 cl, ptr fb] 180 := by
    rw [hW]
    exact later' (heap_alloc_new w _) (Joins.below_alloc1 _ _)
  have R0 := h.below KW
  have p0 := XP.cell 0
  have p1 := XP.cell 1
  have HW := Hid.mk (And.intro KW (And.intro XR (And.intro XP R0)))
  have HF := Hid.mk (And.intro hb (And.intro hf h))
  have fr : G (w.heap.size + 1) = none := h.free (by omega)
  have HFR := Hid.mk fr
  have HFR0 : Hid (G w.heap.size = none) := ⟨h.free (Nat.le_refl _)⟩
  -- what is left behind a plain store
  have FIN : Hid (∀ (c : Array Value) (W' : World) (G1 : Gm) (th1 : List T), (W'.heap[w.heap.size + 1]? = some (.cells (thC 0 0 nilp nilp nilp nils nilm 0) 91 (0, 0))) → Fz G G1 w W' → Rep W' G1 th1 rows → G1 (w.heap.size + 1) = none → Fz G G1 w (W'.setRow (w.heap.size + 1) c) ∧ Rep (W'.setRow (w.heap.size + 1) c) G1 th1 rows) := ⟨fun c W' G1 th1 hx F R hfr => by
    have e4 := setRow_oth W' (w.heap.size + 1) c
    exact ⟨F.more rfl rfl rfl (by rw [setRow_size]; exact Nat.le_refl _) (fun i hi => e4 i (by omega)) (Le.refl _) (fun _ _ q => q), R.later (by rw [setRow_size]; exact Nat.le_refl _) (fun x ty hx => e4 x (fun z => by rw [z, hfr] at hx; cases hx))⟩⟩
  have XN : ∀ c : Array Value, ((w.alloc (.cells #[.int .i64 cl, ptr fb] 180)).alloc (.cells c 91)).heap[w.heap.size + 1]? = some (.cells c 91 (0, 0)) := fun c => by
    have := heap_alloc_new (w.alloc (.cells #[.int .i64 cl, ptr fb] 180)) (.cells c 91)
    rwa [World.size_alloc] at this
  have KN : ∀ c : Array Value, Below w.heap.size w ((w.alloc (.cells #[.int .i64 cl, ptr fb] 180)).alloc (.cells c 91)) := fun c => (Joins.below_alloc1 w _).alloc (Joins.below_alloc1 w _).size _
  have HN := Hid.mk (And.intro XN KN)
  by_cases c3 : cl = 3
  · subst c3
    have eb : boundP e (.mk 3 a x) th = (.fn a x e, th) := by unfold boundP; simp
    rw [eb]
    clear h hb hf KW XR XP R0 fr XN KN hW FIN
    go_enter Tryz.func101, Tryz.ntmps101
    go_wp2
    exact bodyPost_ret (results_cell_row Tryz.results101 _ _ (w.heap.size + 1) 91 (thC 2 0 (ptr fb) (ptr b) nilp nils nilm 0) (0, 0) _ rfl (HN.out.1 _) Tryz.underlying91 rfl size91) rfl ⟨_, rfl, G, Fz.of_below (HN.out.2 _), HF.out.2.2.below (HN.out.2 _), fun i => ⟨_, _, ⟨fb, rfl, HF.out.2.1⟩, ⟨b, rfl, HF.out.1⟩, rfl⟩⟩
  · have a0 : a = 0 := by rcases Nat.eq_zero_or_pos a with z | z; exact z; exact absurd (ok.1.2 z) c3
    have g3 : (cl == 3) = false := beq_eq_false_iff_ne.2 c3
    obtain ⟨bx, XF, hx⟩ := h.formB hf
    have f1 := (XF.later KW).cell 1
    have q1 := XF.cell 1
    have fblt := h.lt hf
    have bxlt := h.lt hx
    by_cases c1 : cl = 1
    · subst c1
      have ix := ok.2.2.1 rfl
      cases x <;> simp only [isConX] at ix
      rename_i n l
      have eb : boundP e (.mk 1 a (.con n l)) th = (.con n (atomsP e l th).1, (atomsP e l th).2) := by unfold boundP; simp
      rw [eb]
      have okx := ok.2.2.2.2.1
      rw [a0] at okx
      simp only [pushN, if_true, okX] at okx
      obtain ⟨cx, hcx, av, pa, e1⟩ := h.expB hx
      have XX : Bx w bx (xC 2 n 0 .nilFunc 0 0 av nils nilp nilm nilp) 147 := by rw [← e1]; exact hcx
      have x1 := (XX.later KW).cell 1
      have x6 := (XX.later KW).cell 6
      have AT := latoms_more (R0.later (w' := W.drew) (Nat.le_refl _) (fun _ _ _ => rfl)) hb he l pa okx.2.2
      have HX := Hid.mk (And.intro (XX.later KW) (XF.later KW))
      have fbx : fb < W.heap.size := Nat.lt_of_lt_of_le fblt KW.size
      have bxx : bx < W.heap.size := Nat.lt_of_lt_of_le bxlt KW.size
      have tf := h.lt hf
      have n1 : ¬ fb = w.heap.size + 1 := by omega
      have n2 : ¬ bx = w.heap.size + 1 := by omega
      have n3 : ¬ w.heap.size + 1 = fb := by omega
      have n4 : ¬ w.heap.size + 1 = bx := by omega
      have HG := Hid.mk (And.intro hf hx)
      obtain ⟨ga, cap, rfl, _⟩ := id pa
      obtain ⟨nl, hnl⟩ : ∃ n, l.length = n := ⟨_, rfl⟩
      have HNL := Hid.mk hnl
      rw [hnl] at AT x6 HX
      clear h hb hf KW XR XP R0 fr XN KN XF XX hcx e1 ok okx pa hx eb q1 HN hnl
      go_enter Tryz.func101, Tryz.ntmps101
      go_wp2
      rw [← hW]
      clear hW
      go_wp2
      go_region_held3 (fun w' => w'.cell? ⟨w.heap.size, 1, none⟩ = some (ptr fb) ∧ w'.cell? ⟨fb, 1, none⟩ = some (ptr bx) ∧ w'.cell? ⟨bx, 1, none⟩ = some (.int .i64 n) ∧ w'.cell? ⟨bx, 6, none⟩ = some (.slice ga nl cap)) (go_keep) (first
        | (go_at_call 68; refine AT.mono ?_; rintro r w8 ⟨g, gc, G8, rfl, hgc, hg8, N8, F8, R8⟩; have XP8 : Bx w8 w.heap.size #[.int .i64 1, ptr fb] 180 := (F8.block _ (lt_of_block HW.out.2.2.1) (by rw [HFR0.out]; trivial)).trans HW.out.2.2.1; have XR8 : Bx w8 (w.heap.size + 1) (thC 0 0 nilp nilp nilp nils nilm 0) 91 := (F8.block _ (lt_of_block HW.out.2.1) (by rw [HFR.out]; trivial)).trans HW.out.2.1; have XF8 : Bx w8 fb #[.int .i64 a, ptr bx] 119 := (F8.block _ fbx (by rw [HG.out.1]; trivial)).trans HX.out.2; have XX8 : Bx w8 bx (xC 2 n 0 .nilFunc 0 0 (.slice ga nl cap) nils nilp nilm nilp) 147 := (F8.block _ bxx (by rw [HG.out.2]; trivial)).trans HX.out.1; have s1 : w8.cell? ⟨w.heap.size, 1, none⟩ = some (ptr fb) := XP8.cell 1; have s2 : w8.cell? ⟨fb, 1, none⟩ = some (ptr bx) := XF8.cell 1; have s3 : w8.cell? ⟨bx, 1, none⟩ = some (.int .i64 n) := XX8.cell 1; have s4 : w8.cell? ⟨bx, 6, none⟩ = some (.slice ga nl cap) := XX8.cell 6; have u0 : w8.cell? ⟨w.heap.size + 1, 0, none⟩ = some (.int .i64 0) := XR8.cell 0; have uz0 : w8.frozen? ⟨w.heap.size + 1, 0, none⟩ = false := Joins.unfrozen_of_block XR8 0; have u1 : w8.cell? ⟨w.heap.size + 1, 1, none⟩ = some (.int .i64 0) := XR8.cell 1; have uz1 : w8.frozen? ⟨w.heap.size + 1, 1, none⟩ = false := Joins.unfrozen_of_block XR8 1; have u2 : w8.cell? ⟨w.heap.size + 1, 2, none⟩ = some (nilp) := XR8.cell 2; have uz2 : w8.frozen? ⟨w.heap.size + 1, 2, none⟩ = false := Joins.unfrozen_of_block XR8 2; have u3 : w8.cell? ⟨w.heap.size + 1, 3, none⟩ = some (nilp) := XR8.cell 3; have uz3 : w8.frozen? ⟨w.heap.size + 1, 3, none⟩ = false := Joins.unfrozen_of_block XR8 3; have u4 : w8.cell? ⟨w.heap.size + 1, 4, none⟩ = some (nilp) := XR8.cell 4; have uz4 : w8.frozen? ⟨w.heap.size + 1, 4, none⟩ = false := Joins.unfrozen_of_block XR8 4; have u5 : w8.cell? ⟨w.heap.size + 1, 5, none⟩ = some (nils) := XR8.cell 5; have uz5 : w8.frozen? ⟨w.heap.size + 1, 5, none⟩ = false := Joins.unfrozen_of_block XR8 5; have u6 : w8.cell? ⟨w.heap.size + 1, 6, none⟩ = some (nilm) := XR8.cell 6; have uz6 : w8.frozen? ⟨w.heap.size + 1, 6, none⟩ = false := Joins.unfrozen_of_block XR8 6; have u7 : w8.cell? ⟨w.heap.size + 1, 7, none⟩ = some (.int .i64 0) := XR8.cell 7; have uz7 : w8.frozen? ⟨w.heap.size + 1, 7, none⟩ = false := Joins.unfrozen_of_block XR8 7; have HN8 := Hid.mk (And.intro N8 (And.intro F8 (And.intro R8 (And.intro XR8 (And.intro hgc hg8))))); clear N8 F8 R8 XP8 XR8 XF8 XX8))
      all_goals go_wp2
      obtain ⟨a1, a2, a3, a4, a5, a6⟩ := HN8.out
      obtain ⟨R9, P9⟩ := a1.row a3
      have gl : w.heap.size ≤ g := by have := HW.out.1.size; simp at a6; omega
      have gW : W.heap.size ≤ g := by simpa using a6
      have F8 : Fz G (Lz.tag G8 g (.row (atomsP e l th).1)) w w8 := ((Fz.of_below HW.out.1).trans ((Fz.drewL G W).trans a2)).more rfl rfl rfl (Nat.le_refl _) (fun _ _ => rfl) (le_tag a1.free _) (fun i hi q => by rw [tag_ne _ _ (by omega)]; exact q)
      have ft : Lz.tag G8 g (.row (atomsP e l th).1) (w.heap.size + 1) = none := by rw [tag_ne _ _ (by have := lt_of_block HW.out.2.1; omega)]; exact a2.new _ (lt_of_block HW.out.2.1) HFR.out
      have hb9 := store8 a4 (.int .i64 1) (.int .i64 n) nilp nilp nilp (.slice (some ⟨g, 0, none⟩) nl gc) nilm (.int .i64 0)
      have ho9 := store8_oth w8 (w.heap.size + 1) (.int .i64 1) (.int .i64 n) nilp nilp nilp (.slice (some ⟨g, 0, none⟩) nl gc) nilm (.int .i64 0)
      obtain ⟨W9, hW9⟩ : ∃ x : World, x = ((((((((w8.setCell ⟨w.heap.size + 1, 0, none⟩ (.int .i64 1)).setCell ⟨w.heap.size + 1, 1, none⟩ (.int .i64 n)).setCell ⟨w.heap.size + 1, 2, none⟩ nilp).setCell ⟨w.heap.size + 1, 3, none⟩ nilp).setCell ⟨w.heap.size + 1, 4, none⟩ nilp).setCell ⟨w.heap.size + 1, 5, none⟩ (.slice (some ⟨g, 0, none⟩) nl gc)).setCell ⟨w.heap.size + 1, 6, none⟩ nilm).setCell ⟨w.heap.size + 1, 7, none⟩ (.int .i64 0)) := ⟨_, rfl⟩
      have o9 : W9.os = w8.os ∧ W9.tape = w8.tape ∧ W9.output = w8.output ∧ W9.heap.size = w8.heap.size := store8_env _ _ _ _ _ _ _ _ _ _ _ hW9
      rw [← hW9] at hb9 ho9
      rw [← hW9]
      clear hW9
      have P9' := P9 gc (by rw [atomsP_len, HNL.out]; exact a5)
      rw [atomsP_len, HNL.out] at P9'
      exact bodyPost_ret (results_cell_row Tryz.results101 _ _ (w.heap.size + 1) 91 _ (0, 0) _ rfl hb9 Tryz.underlying91 rfl size91) rfl ⟨_, _, rfl, F8.more o9.1 o9.2.1 o9.2.2.1 (Nat.le_of_eq o9.2.2.2.symm) (fun i hi => ho9 i (by omega)) (Le.refl _) (fun _ _ q => q), R9.later (Nat.le_of_eq o9.2.2.2.symm) (fun x ty hx => ho9 x (fun z => by rw [z, ft] at hx; cases hx)), fun i => ⟨_, P9', rfl⟩⟩
    · have g1 : (cl == 1) = false := beq_eq_false_iff_ne.2 c1
      by_cases c2 : cl = 2
      · subst c2
        have ix := ok.2.2.2.1 rfl
        cases x <;> simp only [isIntX] at ix
        rename_i n
        have eb : boundP e (.mk 2 a (.int n)) th = (.num n, th) := by unfold boundP; simp
        rw [eb]
        obtain ⟨cx, hcx, e1⟩ := h.expB hx
        have XX : Bx w bx (xC 4 n 0 .nilFunc 0 0 nils nils nilp nilm nilp) 147 := by rw [← show cx = _ from e1]; exact hcx
        have y1 := XX.cell 1
        clear h hb hf KW XR XP R0 fr XN KN hW FIN XF XX hcx e1 ok
        go_enter Tryz.func101, Tryz.ntmps101
        go_wp2
        exact bodyPost_ret (results_cell_row Tryz.results101 _ _ (w.heap.size + 1) 91 (thC 0 n nilp nilp nilp nils nilm 0) (0, 0) _ rfl (HN.out.1 _) Tryz.underlying91 rfl size91) rfl ⟨_, G, rfl, Fz.of_below (HN.out.2 _), HF.out.2.2.below (HN.out.2 _), fun i => rfl⟩
      · have g2 : (cl == 2) = false := beq_eq_false_iff_ne.2 c2
        have eb : boundP e (.mk cl a x) th = (.need x e, th) := by unfold boundP; simp [c3, c1, c2]
        rw [eb]
        clear h hb hf KW XR XP R0 fr XN KN hW FIN XF ok
        go_enter Tryz.func101, Tryz.ntmps101
        go_wp2
        exact bodyPost_ret (results_cell_row Tryz.results101 _ _ (w.heap.size + 1) 91 (thC 6 0 (ptr fb) (ptr b) nilp nils nilm 0) (0, 0) _ rfl (HN.out.1 _) Tryz.underlying91 rfl size91) rfl ⟨_, G, rfl, Fz.of_below (HN.out.2 _), HF.out.2.2.below (HN.out.2 _), fun i => ⟨_, _, a, ⟨fb, rfl, HF.out.2.1⟩, ⟨b, rfl, HF.out.1⟩, rfl⟩⟩
set_option maxRecDepth 100000 in
set_option maxHeartbeats 8000000 in
theorem group_more {ar : List Nat} (h : Rep w G th rows) {b : Nat} {e : Env} (hb : G b = some (.env e)) (he : okE th.length e) (bs : List Bd) {v : Value} (hv : pBinds G bs v) (h0 : bs.length ≠ 0) (ok : okBs ar (bs.length :: shE e) bs) (hen : e.length + 1 ≤ 1000000000) :
    Calls Tryz.prog 72 #[ptr b, v] w fun r w' => ∃ u G', r = .returned u ∧ pEnv G' (groupE e bs th) u ∧ Fz G G' w w' ∧ Rep w' G' (groupT e bs th) rows := by
  obtain ⟨i0, hi0⟩ : ∃ i, Tryz.prog.info? 78 = some i := by
    have := info78
    cases q : Tryz.prog.info? 78 with
    | none => rw [q] at this; cases this
    | some i => exact ⟨i, rfl⟩
  have hz : i0.zero = some (.pointer none) ∧ i0.size = 1 ∧ i0.bytes = 8 := by
    have := info78
    rw [hi0] at this
    simpa using this
  obtain ⟨ga, cap, rfl, hcap, h9, hg⟩ := hv
  obtain ⟨n, hn⟩ : ∃ n, bs.length = n := ⟨_, rfl⟩
  have mk := run_make (P := Tryz.prog) w 84 78 i0 _ Tryz.underlying84 hi0 hz.1 .i64 .i64 (n : Int) n (by omega) (Int.le_refl _) (by rw [hz.2.2]; omega) (by omega)
  rw [hz.2.1] at mk
  simp only [Int.toNat_natCast, Nat.mul_one] at mk
  obtain ⟨c0, hc0⟩ : ∃ c, c = madeCells (Value.pointer none).cells n := ⟨_, rfl⟩
  have sz0 : c0.size = n := by rw [hc0]; exact size_madeCells _ _
  rw [← hc0] at mk
  clear hc0 hz hi0 i0
  have P0 := PartRow.made w G n (h.free (Nat.le_refl _)) c0 sz0
  have R0 := h.below (Joins.below_alloc1 w (.cells c0 78))
  have F0 : Fz G G w (w.alloc (.cells c0 78)) := Fz.of_below (Joins.below_alloc1 w _)
  have HN := Hid.mk hn
  have HG := Hid.mk (hg h0)
  have HH := Hid.mk (And.intro h (And.intro hb (And.intro he (And.intro ok hen))))
  have H0 := Hid.mk (And.intro P0 (And.intro F0 R0))
  rw [hn] at hcap h9 h0
  clear hn hg h hb he ok P0 R0 F0
  rw [HN.out]
  go_enter Tryz.func72, Tryz.ntmps72
  go_wp2
  go_loopw [15, 6] (fun c d wr => ∃ i : Nat, c = .int .i64 i ∧ i ≤ n ∧ ∃ Gr, Hid (PartRow wr Gr w.heap.size n (List.range' th.length i) ∧ Fz G Gr w wr ∧ Rep wr Gr (th ++ List.replicate i (.num 0)) rows)) (fun c _ _ => n - (intOf c).toNat)
  case atStart => exact ⟨0, rfl, Nat.zero_le _, G, by simpa using H0⟩
  case round =>
    obtain ⟨i, rfl, hi, Gr, HR⟩ := hrel
    by_cases hlt : i < n
    · obtain ⟨cr, XR, zR, tR⟩ := HR.out.1.blk
      have hltI : (i : Int) < n := by omega
      obtain ⟨ui, hui⟩ : ∃ u, cr[i]? = some u := ⟨_, Array.getElem?_eq_getElem (by omega)⟩
      have K8 := Joins.below_alloc1 wr (.cells (numC 0) 91)
      have x8 := later' XR K8
      have k0 : (wr.alloc (.cells (numC 0) 91)).cell? ⟨w.heap.size, i, none⟩ = some ui := (Joins.cell_of_block x8 i).trans hui
      have k1 : (wr.alloc (.cells (numC 0) 91)).frozen? ⟨w.heap.size, i, none⟩ = false := Joins.unfrozen_of_block x8 i
      have HX8 := Hid.mk (And.intro x8 (And.intro K8 (And.intro zR tR)))
      have gsz : Hid (w.heap.size < wr.heap.size) := ⟨lt_of_block XR⟩
      clear XR zR tR x8 K8 hui
      go_wp2
      have hb8 : (wr.alloc (.cells (numC 0) 91)).heap[wr.heap.size]? = some (.cells (numC 0) 91 (0, 0)) := heap_alloc_new wr _
      obtain ⟨PR, FR, RR⟩ := HR.out
      have fr : Gr wr.heap.size = none := RR.free (Nat.le_refl _)
      have le := le_tag fr (.thing (th ++ List.replicate i (T.num 0)).length)
      have tl : (th ++ List.replicate i (T.num 0)).length = th.length + i := by simp
      have g0 := gsz.out
      have s1 := (RR.below HX8.out.2.1).thing fr hb8 (t := .num 0) rfl
      have nb : ∀ x, x ≠ w.heap.size → ((wr.alloc (.cells (numC 0) 91)).setCell ⟨w.heap.size, i, none⟩ (ptr wr.heap.size)).heap[x]? = (wr.alloc (.cells (numC 0) 91)).heap[x]? := fun x hx => setCell_block _ _ _ _ hx
      have ft : Lz.tag Gr wr.heap.size (.thing (th ++ List.replicate i (T.num 0)).length) w.heap.size = none := by rw [tag_ne _ _ (by omega)]; exact PR.free
      refine ⟨⟨i + 1, by go_num, by omega, Lz.tag Gr wr.heap.size (.thing (th ++ List.replicate i (T.num 0)).length), ⟨⟨ft, ?_⟩, ?_, ?_⟩⟩, by simp [intOf]; omega⟩
      · refine ⟨_, Joins.block_setCell (i := i) HX8.out.1 _, by simp; exact HX8.out.2.2.1, fun k u hk => ?_⟩
        rw [List.range'_1_concat] at hk
        by_cases q : k = i
        · subst q
          rw [List.getElem?_append_right (by simp), List.length_range', Nat.sub_self] at hk
          simp at hk
          subst hk
          exact ⟨ptr wr.heap.size, by simp [HX8.out.2.2.1, hlt], wr.heap.size, rfl, by rw [tag_self, tl]⟩
        · have ki : k < i := by
            have := (List.getElem?_eq_some_iff.1 hk).1
            simp at this
            omega
          rw [List.getElem?_append_left (by simpa using ki)] at hk
          obtain ⟨v, hv, pv⟩ := HX8.out.2.2.2 k u hk
          exact ⟨v, by rw [Array.getElem?_setIfInBounds_ne (fun e => q e.symm)]; exact hv, pT.le le pv⟩
      · exact FR.more HX8.out.2.1.os HX8.out.2.1.tape HX8.out.2.1.output (by have := HX8.out.2.1.size; simp [World.setCell]) (fun x hx => (nb x (by omega)).trans (HX8.out.2.1.block x (by omega))) le (fun x hx q => by rw [tag_ne _ _ (by omega)]; exact q)
      · rw [List.replicate_succ', ← List.append_assoc]
        exact s1.later (by simp [World.setCell]) (fun x ty hx => nb x (fun e => by rw [e, ft] at hx; cases hx))
    · obtain rfl : i = n := by omega
      obtain ⟨PR, FR, RR⟩ := HR.out
      obtain ⟨R1, P1⟩ := (PR.full (by simp)).row RR
      have fr := PR.free
      have P1' := P1 i (by simp)
      rw [List.length_range'] at P1'
      have F1 : Fz G (Lz.tag Gr w.heap.size (.row (List.range' th.length i))) w wr := FR.more rfl rfl rfl (Nat.le_refl _) (fun _ _ => rfl) (le_tag fr _) (fun x hx q => by rw [tag_ne _ _ (by omega)]; exact q)
      have WI := within_more R1 (F1.le _ _ HH.out.2.1) P1' HH.out.2.2.2.2
      have ei : inE e (List.range' th.length i) = groupE e bs th := by unfold inE groupE; rw [List.length_range', if_neg h0, HN.out]
      rw [ei] at WI
      have HP := Hid.mk (And.intro P1' F1)
      have HGI := Hid.mk (show Lz.tag Gr w.heap.size (.row (List.range' th.length i)) w.heap.size = _ from tag_self _ _ _)
      clear PR FR RR R1 P1 P1' fr F1 ei HR
      go_wp2_with (go_at_call 100; refine WI.mono ?_; rintro r w8 ⟨u8, G8, rfl, P8, F80, R8, B8⟩; have F8 := Fz.mk F80 (fun i _ _ l => B8.block i l); clear F80 B8; obtain ⟨b8, rfl, hb8⟩ := P8; have H8 := Hid.mk (And.intro hb8 (And.intro F8 R8)); clear hb8 F8 R8)
      go_loopw [29, 8, 9] (fun c d f wr => ∃ j : Nat, c = .int .i64 j ∧ j ≤ i ∧ ∃ Gr, Hid (Fz G8 Gr w8 wr ∧ Rep wr Gr (layP (groupE e bs th) (bs.take j) th.length (th ++ List.replicate i (.num 0))) rows)) (fun c _ _ _ => i - (intOf c).toNat)
      case atStart => exact ⟨0, rfl, Nat.zero_le _, G8, ⟨Fz.refl _ _, by rw [List.take_zero, layP]; exact H8.out.2.2⟩⟩
      case round =>
        obtain ⟨j, rfl, hj, Gq, HQ⟩ := hrel
        by_cases jlt : j < i
        · have jl : j < bs.length := by rw [HN.out]; exact jlt
          obtain ⟨gq, hgq, hgb⟩ := HG.out
          subst hgq
          obtain ⟨FQ, RQ⟩ := HQ.out
          have LE : Le G Gq := (HP.out.2.le.trans H8.out.2.1.le).trans FQ.le
          obtain ⟨_, vs, hvs, hvc⟩ := RQ.cont gq _ (LE _ _ hgb)
          obtain ⟨cl, a, x, ebj, okj⟩ := okBs_get HH.out.2.2.2.1 j jl
          obtain ⟨fb, hfb, hv0, hv1⟩ := bdC_get hvs j jl cl a x ebj
          have d0 := hvc _ _ hv0
          have d1 := hvc _ _ hv1
          have hrow : Gq w.heap.size = some (.row (List.range' th.length i)) := FQ.le _ _ (H8.out.2.1.le _ _ HGI.out)
          obtain ⟨_, hrc⟩ := RQ.cont _ _ hrow
          obtain ⟨vt, hvt, bt, rfl, hbt⟩ := hrc j (th.length + j) (by rw [List.getElem?_range' jlt]; simp)
          have sn : bs.take (j + 1) = bs.take j ++ [bs[j]] := List.take_succ_eq_append_getElem jl
          have ls := layP_snoc (groupE e bs th) (bs.take j) bs[j] th.length (th ++ List.replicate i (.num 0))
          rw [← sn, ebj, List.length_take, Nat.min_eq_left (Nat.le_of_lt jl)] at ls
          have HLS := Hid.mk ls
          have okE0 : okE (layP (groupE e bs th) (bs.take j) th.length (th ++ List.replicate i (.num 0))).length (groupE e bs th) := by
            have e0 : okE (th ++ List.replicate i (T.num 0)).length (groupE e bs th) := groupE_ok HH.out.2.2.1 HH.out.2.2.2.2 (by rw [HN.out]; simp)
            obtain ⟨l', q1, q2, _⟩ := layP_ok (ar := ar) th (bs.take j) th.length (List.replicate i (.num 0)) e0 (by rw [shE_group]; exact okBs_take j HH.out.2.2.2.1) (Nat.le_refl _) (by simp; omega) (fun t ht => by obtain ⟨_, rfl⟩ := List.mem_replicate.1 ht; exact ⟨by decide, by decide⟩)
            rw [q1]
            exact e0.mono (by simp at q2 ⊢; omega)
          have tlt : th.length + j < (layP (groupE e bs th) (bs.take j) th.length (th ++ List.replicate i (.num 0))).length := RQ.thlt hbt
          generalize layP (groupE e bs th) (bs.take j) th.length (th ++ List.replicate i (.num 0)) = thq at *
          obtain ⟨W, hW⟩ : ∃ W, W = wr.alloc (.cells #[.int .i64 cl, ptr fb] 180) := ⟨_, rfl⟩
          have KW : Below wr.heap.size wr W := by rw [hW]; exact Joins.below_alloc1 wr _
          have XW : Bx W wr.heap.size #[.int .i64 cl, ptr fb] 180 := by rw [hW]; exact heap_alloc_new wr _
          have BD := bound_more (ar := ar) ((RQ.below KW).later (w' := W.drew) (Nat.le_refl _) (fun _ _ _ => rfl)) (FQ.le _ _ H8.out.1) hfb okE0 (cl := cl) (by rw [shE_group]; exact okj)
          have x0 := XW.cell 0
          have x1 := XW.cell 1
          have t0 := (World.cell?_of_block (KW.block w.heap.size (World.block_lt_of_cell? _ _ hvt))).trans hvt
          have btlt := RQ.lt hbt
          have rlt := RQ.lt hrow
          have m1 : ¬ w.heap.size = bt := fun z => by rw [z, hbt] at hrow; cases hrow
          have m2 : ¬ bt = w.heap.size := fun z => m1 z.symm
          have m3 : ¬ wr.heap.size = bt := by omega
          have m4 : ¬ bt = wr.heap.size := by omega
          have HK := Hid.mk (And.intro KW (And.intro XW (And.intro hbt (And.intro hrow hvt))))
          have jI : (j : Int) < i := by omega
          clear hvs hvc hv0 hv1 hrc sn ls okE0 okj hfb KW XW hbt hrow ebj LE
          generalize boundP (groupE e bs th) (.mk cl a x) thq = bp at *
          go_wp2
          rw [← hW]
          clear hW
          go_region_held3 (fun w' => w'.cell? ⟨w.heap.size, j, none⟩ = some (ptr bt) ∧ w'.cell? ⟨wr.heap.size, 0, none⟩ = some (.int .i64 cl) ∧ w'.cell? ⟨wr.heap.size, 1, none⟩ = some (ptr fb)) (go_keep) (first
            | (go_at_call 101; refine BD.mono ?_; rintro r w9 ⟨c9, G9, rfl, F9, R9, T9⟩; obtain ⟨is', n', f', nm', o', ga', gn', gc', it', wr', e9⟩ := isT_shape (T9 0); subst e9; obtain ⟨tv, cc, _, hbc, hbt9⟩ := R9.cont bt _ (F9.le _ _ HK.out.2.2.1); obtain ⟨is, nn, tf, tnm, to, tga, tgn, tgc, tit, twr, ecc⟩ := isT_shape hbt9; subst ecc; have B9 : Bx w9 bt (shT is nn tf tnm to tga tgn tgc tit twr) 91 := hbc; have u0 : w9.cell? ⟨bt, 0, none⟩ = some (.int .i64 is) := (B9).cell 0; have uz0 : w9.frozen? ⟨bt, 0, none⟩ = false := Joins.unfrozen_of_block B9 0; have u1 : w9.cell? ⟨bt, 1, none⟩ = some (.int .i64 nn) := (B9).cell 1; have uz1 : w9.frozen? ⟨bt, 1, none⟩ = false := Joins.unfrozen_of_block B9 1; have u2 : w9.cell? ⟨bt, 2, none⟩ = some (.pointer tf) := (B9).cell 2; have uz2 : w9.frozen? ⟨bt, 2, none⟩ = false := Joins.unfrozen_of_block B9 2; have u3 : w9.cell? ⟨bt, 3, none⟩ = some (.pointer tnm) := (B9).cell 3; have uz3 : w9.frozen? ⟨bt, 3, none⟩ = false := Joins.unfrozen_of_block B9 3; have u4 : w9.cell? ⟨bt, 4, none⟩ = some (.pointer to) := (B9).cell 4; have uz4 : w9.frozen? ⟨bt, 4, none⟩ = false := Joins.unfrozen_of_block B9 4; have u5 : w9.cell? ⟨bt, 5, none⟩ = some (.slice tga tgn tgc) := (B9).cell 5; have uz5 : w9.frozen? ⟨bt, 5, none⟩ = false := Joins.unfrozen_of_block B9 5; have u6 : w9.cell? ⟨bt, 6, none⟩ = some (.map tit) := (B9).cell 6; have uz6 : w9.frozen? ⟨bt, 6, none⟩ = false := Joins.unfrozen_of_block B9 6; have u7 : w9.cell? ⟨bt, 7, none⟩ = some (.int .i64 twr) := (B9).cell 7; have uz7 : w9.frozen? ⟨bt, 7, none⟩ = false := Joins.unfrozen_of_block B9 7; have X9 : Bx w9 wr.heap.size #[.int .i64 cl, ptr fb] 180 := (F9.block _ (lt_of_block HK.out.2.1) (by rw [RQ.free (Nat.le_refl _)]; trivial)).trans HK.out.2.1; have s0 : w9.cell? ⟨wr.heap.size, 0, none⟩ = some (.int .i64 cl) := X9.cell 0; have s1 : w9.cell? ⟨wr.heap.size, 1, none⟩ = some (ptr fb) := X9.cell 1; have s2 : w9.cell? ⟨w.heap.size, j, none⟩ = some (ptr bt) := (World.cell?_of_block (F9.block w.heap.size (Nat.lt_of_lt_of_le rlt HK.out.1.size) (by rw [HK.out.2.2.2.1]; trivial))).trans t0; have H9 := Hid.mk (And.intro F9 (And.intro R9 (And.intro T9 B9))); clear F9 R9 T9 B9 hbc hbt9 X9))
          all_goals go_wp2
          obtain ⟨F9, R9, T9, B9⟩ := H9.out
          have bt9 := F9.le _ _ HK.out.2.2.1
          have hb9 := store8 B9 (.int .i64 is') (.int .i64 n') (.pointer f') (.pointer nm') (.pointer o') (.slice ga' gn' gc') (.map it') (.int .i64 wr')
          have ho9 := store8_oth w9 bt (.int .i64 is') (.int .i64 n') (.pointer f') (.pointer nm') (.pointer o') (.slice ga' gn' gc') (.map it') (.int .i64 wr')
          obtain ⟨W9, hW9⟩ : ∃ x : World, x = ((((((((w9.setCell ⟨bt, 0, none⟩ (.int .i64 is')).setCell ⟨bt, 1, none⟩ (.int .i64 n')).setCell ⟨bt, 2, none⟩ (.pointer f')).setCell ⟨bt, 3, none⟩ (.pointer nm')).setCell ⟨bt, 4, none⟩ (.pointer o')).setCell ⟨bt, 5, none⟩ (.slice ga' gn' gc')).setCell ⟨bt, 6, none⟩ (.map it')).setCell ⟨bt, 7, none⟩ (.int .i64 wr')) := ⟨_, rfl⟩
          have o9 : W9.os = w9.os ∧ W9.tape = w9.tape ∧ W9.output = w9.output ∧ W9.heap.size = w9.heap.size := store8_env _ _ _ _ _ _ _ _ _ _ _ hW9
          rw [← hW9] at hb9 ho9
          rw [← hW9]
          clear hW9
          have ti : isT W9 G9 (th.length + j) bp.1 (shT is' n' f' nm' o' ga' gn' gc' it' wr') := isT.le (Le.refl G9) (fun m hm => ho9 m (fun z => by rw [z, bt9] at hm; cases hm)) _ _ (T9 _)
          refine ⟨⟨j + 1, by go_num, by omega, G9, ⟨?_, ?_⟩⟩, by simp [intOf]; omega⟩
          · exact (FQ.trans ((Fz.of_below HK.out.1).trans ((Fz.drewL Gq W).trans F9))).trans (Fz.of_thing bt9 o9.1 o9.2.1 o9.2.2.1 (Nat.le_of_eq o9.2.2.2.symm) (fun i _ hi => ho9 i hi))
          · rw [HLS.out]
            exact R9.put bt9 (Nat.le_of_eq o9.2.2.2.symm) hb9 ti (fun x ty hx hne _ => ho9 x hne)
        · obtain rfl : j = i := by omega
          go_wp2
          go_ret
          obtain ⟨FQ, RQ⟩ := HQ.out
          rw [List.take_of_length_le (by rw [HN.out]; omega)] at RQ
          refine ⟨_, Gq, rfl, ⟨b8, rfl, FQ.le _ _ H8.out.1⟩, HP.out.2.trans (H8.out.2.1.trans FQ), ?_⟩
          unfold groupT
          rw [HN.out]
          exact RQ
end
end Go.Proofs.YtbajpejnnfacbaaGreatDoor.Lz
