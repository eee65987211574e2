/- Package stack: Push, where there is room. -/
import Derived.Test.YtglimbpnekephaaDoorSte
namespace Go.Proofs.YtglimbpnekephaaDoor
open Go.RowKit
set_option linter.unusedVariables false
set_option linter.unusedSimpArgs false

set_option maxRecDepth 100000 in
set_option maxHeartbeats 8000000 in
theorem push_go {w : World} {p a b F N k : Nat} {ws : List Int} {rs : List Fr} (h : Ss w p a b ws F N k rs) (f : Fr) (o : Option Addr) (cap : Nat) (T : Table w) (P : PS w o cap f.ps) (h1 : 0 < f.ps.length → Off o p) (h2 : 0 < f.ps.length → Off o b) (hr : rightE f = 0) (hf : (wd rs).length + (f.ps.length + 1) ≤ N) :
    Calls Tryd.prog 18 #[.pointer (some ⟨p, 0, none⟩), fv f o cap] w fun e w' => e = .returned (.int .i64 0) ∧ (∃ ws', Ss w' p a b ws' F N k (f :: rs) ∧ Bes F N ws ws') ∧ Kp p b w w' := by
  have RI := right_any f o cap (w.alloc (Obj.cells #[.int .i64 f.k, .int .i64 f.a, .int .i64 f.b, .slice o f.ps.length cap] 36)) (T.later (by go_grown)) (P.later (by go_grown))
  have SZ := fun W => size_any f o cap W (show f.ps.length ≤ 17592186044416 by have := (Okf.of hr).n; omega)
  have hok := Okf.of hr
  have LW := fun W => lastWord_any f o cap W hok
  have HS := Hid.mk h.stk
  have FA := Hid.mk (FrAt.fresh w f.k f.a f.b (.slice o f.ps.length cap))
  obtain ⟨pl, al, bl⟩ := h.lt
  have hN := h.stk.nn
  have hU := h.stk.un
  have hcn := h.stk.cn
  have hfit := h.stk.fit
  have hwl := h.stk.ar.len
  have hP := hok.n
  have hPs := hok.p
  have HPS := Hid.mk P
  have Hh := Hid.mk h
  have HO1 := Hid.mk h1
  have HO2 := Hid.mk h2
  obtain ⟨ff, hff⟩ : ∃ x, x = f := ⟨_, rfl⟩
  rw [hr] at RI
  have cc := P.cap
  have hm : f.ps.length + 1 = f.ps.length + 1 := rfl
  obtain ⟨n, hn⟩ : ∃ n, f.ps.length = n := ⟨_, rfl⟩
  obtain ⟨m, hm⟩ : ∃ m, n + 1 = m := ⟨_, rfl⟩
  obtain ⟨u, hu⟩ : ∃ u, (wd rs).length = u := ⟨_, rfl⟩
  obtain ⟨c, hc⟩ : ∃ c, rs.length = c := ⟨_, rfl⟩
  unfold fv at *
  simp only [hn, hm, hu, hc] at RI SZ LW HS FA hU hcn hP cc hf ⊢
  have HN := Hid.mk hn
  have HU := Hid.mk hu
  have HC := Hid.mk hc
  clear hn P T hr h hu hc h1 h2 ff hff
  obtain ⟨fk, hfk⟩ : ∃ x, x = f.k := ⟨_, rfl⟩
  obtain ⟨fa, hfa⟩ : ∃ x, x = f.a := ⟨_, rfl⟩
  obtain ⟨fb, hfb⟩ : ∃ x, x = f.b := ⟨_, rfl⟩
  simp only [← hfk, ← hfa, ← hfb] at RI SZ LW FA ⊢
  clear hfk hfa hfb
  obtain ⟨z, hz⟩ : ∃ z, z = w.heap.size := ⟨_, rfl⟩
  rw [← hz] at FA
  go_enter Tryd.func18, Tryd.ntmps18
  go_wp2_with (go_at_call 13; refine RI.mono ?_; rintro e w' ⟨rfl, B⟩)
  have B2 : Below w.heap.size w w' := belowOn (by go_grown) B
  have F2 := FA.out.later B
  have S2 := HS.out.later B2
  have HB2 := Hid.mk B2
  obtain ⟨x0, x1, x2, x3⟩ := F2
  have s2 := S2.c2
  have s3 := S2.c3
  rw [← hz]
  have hzp : p < z := by omega
  have hzb : b < z := by omega
  clear B B2 FA hz pl al bl
  have HF2 : Hid (FrAt w' z fk fa fb (.slice o n cap)) := ⟨⟨x0, x1, x2, x3⟩⟩
  have HS2 := Hid.mk S2
  clear S2
  have kw : IntKind.i64.wrap ((N : Int) - u) = (N : Int) - u := wrapI (by omega) (by omega)
  have hd2 : decide ((N : Int) - u < (m : Int)) = false := by simp; omega
  have hd1 : decide ((m : Int) > (N : Int) - u) = false := by simp; omega
  go_region_held3 (fun w3 => w3.cell? ⟨z, 0, none⟩ = some (.int .i64 fk) ∧ w3.cell? ⟨z, 1, none⟩ = some (.int .i64 fa) ∧ w3.cell? ⟨z, 2, none⟩ = some (.int .i64 fb) ∧ w3.cell? ⟨z, 3, none⟩ = some (.slice o n cap) ∧ w3.cell? ⟨p, 2, none⟩ = some (.int .i64 N) ∧ w3.cell? ⟨p, 3, none⟩ = some (.int .i64 u)) (go_keep) (first
    | (go_at_call 42; refine (SZ _).mono ?_; rintro e w3 ⟨rfl, B3⟩; have S3 := (HS2.out.later (below_drew w')).later B3; have F3 := (HF2.out.later (below_drew w')).later B3; have HF3 := Hid.mk F3; have t2 := S3.c2; have t3 := S3.c3; obtain ⟨y0, y1, y2, y3⟩ := F3))
  have HK3 : Hid (Kp p b w w3) := ⟨Kp.of (belowOn HB2.out (belowOn (below_drew w') B3))⟩
  have HS3 := Hid.mk S3
  clear B3 HS2 HF2 S3 x0 x1 x2 x3 s2 s3 HB2 kw hd1 hd2 RI HS
  go_wp2
  go_loopw [30] (fun cv wr => ∃ (i : Nat) (wsi : List Int), cv = .int .i64 i ∧ i ≤ n ∧ Hid (Lay ws wsi (F + u) (f.ps.take i)) ∧ Hid (Stk wr p a b wsi F N u c k) ∧ Hid (Kp p b w wr) ∧ Hid (FrAt wr z fk fa fb (.slice o n cap))) (fun cv _ => n - (intOf cv).toNat)
  case atStart => exact ⟨0, ws, rfl, Nat.zero_le _, ⟨Lay.nil _ _⟩, HS3, HK3, HF3⟩
  case round =>
    obtain ⟨i, wsi, rfl, hi, HL, HSr, HKr, HFr⟩ := hrel
    have wl : wsi.length = ws.length := HL.out.len
    by_cases hlt : i < n
    · have kl : i < f.ps.length := by rw [HN.out]; exact hlt
      obtain ⟨g, off, rfl, cx⟩ := (HPS.out.kept HKr.out HO1.out HO2.out).get i kl
      have hx := hPs _ (List.getElem_mem kl)
      have HL2 : Hid (Lay ws (wsi.set (F + (u + i)) (f.ps[i]'kl)) (F + u) (f.ps.take (i + 1))) := ⟨by
        have := HL.out.snoc (f.ps[i]'kl) (by simp; omega)
        rw [List.length_take, Nat.min_eq_left (by omega)] at this
        rw [List.take_succ_eq_append_getElem kl, show F + (u + i) = F + u + i by omega]
        exact this⟩
      generalize f.ps[i]'kl = x at *
      have hlt' : (i : Int) < n := by omega
      have s3 := HSr.out.c3
      have ST := set_any HSr.out (u + i) x (by omega)
      rw [show ((u + i : Nat) : Int) = (u : Int) + i by omega] at ST
      go_wp2_with (go_at_call 43; refine ST.mono ?_; rintro e w4 ⟨⟨xx, rfl⟩, S4, G4⟩)
      exact ⟨⟨i + 1, _, by go_num, by omega, HL2, ⟨S4⟩, ⟨HKr.out.trans (Kp.words G4)⟩, ⟨HFr.out.same (G4.block z (World.block_lt_of_cell? _ _ HFr.out.c0) (by simp; omega))⟩⟩, by simp [intOf]; omega⟩
    · obtain rfl : i = n := by omega
      have HLn : Hid (Lay ws (wsi.set (F + (u + i)) (last f)) (F + (wd rs).length) (f.ps ++ [last f])) := ⟨by
        have := HL.out
        rw [List.take_of_length_le (by rw [HN.out]; omega)] at this
        have := this.snoc (last f) (by rw [HN.out]; omega)
        rw [HN.out] at this
        rw [HU.out, show F + (u + i) = F + u + i by omega]
        exact this⟩
      obtain ⟨u1, hu1⟩ : ∃ x, u + m = x := ⟨_, rfl⟩
      have kw13 : IntKind.i64.wrap ((u : Int) + (m : Int)) = (u1 : Int) := by rw [wrapI (by omega) (by omega)]; omega
      obtain ⟨u2, hu2⟩ : ∃ x, u + i = x := ⟨_, rfl⟩
      have kw14 : IntKind.i64.wrap ((u1 : Int) - 1) = (u2 : Int) := by rw [wrapI (by omega) (by omega)]; omega
      have HU1 : Hid (u + m = u1 ∧ u + i = u2) := ⟨hu1, hu2⟩
      rw [hu2] at HLn
      clear hu1 hu2
      have s3 := HSr.out.c3
      have sz := HSr.out.z 3
      have hz1 : ¬ z = p := by omega
      have hz2 : ¬ p = z := by omega
      obtain ⟨x0, x1, x2, x3⟩ := HFr.out
      go_wp2
      refine wp_region_held_drew (S := (fun W' => W'.cell? ⟨z, 0, none⟩ = some (.int .i64 fk) ∧ W'.cell? ⟨z, 1, none⟩ = some (.int .i64 fa) ∧ W'.cell? ⟨z, 2, none⟩ = some (.int .i64 fb) ∧ W'.cell? ⟨z, 3, none⟩ = some (.slice o i cap))) (by kernel_rfl) ?_ (fun hHeld => ?_)
      · try dsimp only
        go_keep
      refine wpAnyH_take (i := 0) (v := ?_) rfl (by kernel_rfl) (by kernel_rfl) (by kernel_rfl) (fun _ _ _ h => h) (Or.inl ⟨by rfl, ?_⟩) (by assumption) ?_
      rotate_left
      · intro w' hSw
        try dsimp only at hSw
        go_simp
        try with_reducible rfl
      try simp only [Act.put, List.getElem_toArray, List.getElem_cons_zero, List.getElem_cons_succ, List.setIfInBounds_toArray, List.set_cons_zero, List.set_cons_succ]
      refine wpAnyH_take (i := 1) (v := ?_) rfl (by kernel_rfl) (by kernel_rfl) (by kernel_rfl) (fun _ _ _ h => h) (Or.inl ⟨by rfl, ?_⟩) (by assumption) ?_
      rotate_left
      · intro w' hSw
        try dsimp only at hSw
        go_simp
        try with_reducible rfl
      try simp only [Act.put, List.getElem_toArray, List.getElem_cons_zero, List.getElem_cons_succ, List.setIfInBounds_toArray, List.set_cons_zero, List.set_cons_succ]
      refine wpAnyH_take (i := 2) (v := ?_) rfl (by kernel_rfl) (by kernel_rfl) (by kernel_rfl) (fun _ _ _ h => h) (Or.inl ⟨by rfl, ?_⟩) (by assumption) ?_
      rotate_left
      · intro w' hSw
        try dsimp only at hSw
        go_simp
        try with_reducible rfl
      try simp only [Act.put, List.getElem_toArray, List.getElem_cons_zero, List.getElem_cons_succ, List.setIfInBounds_toArray, List.set_cons_zero, List.set_cons_succ]
      refine wpAnyH_take (i := 4) (v := ?_) rfl (by kernel_rfl) (by kernel_rfl) (by kernel_rfl) (fun _ _ _ h => h) (Or.inl ⟨by rfl, ?_⟩) (by assumption) ?_
      rotate_left
      · intro w' hSw
        try dsimp only at hSw
        go_simp
        try with_reducible rfl
      try simp only [Act.put, List.getElem_toArray, List.getElem_cons_zero, List.getElem_cons_succ, List.setIfInBounds_toArray, List.set_cons_zero, List.set_cons_succ]
      refine wpAnyH_ready (rs := [3, 5]) (by kernel_rfl) (by simp) ?_
      refine AllReadyH.cons rfl (fun K hK => ?_) (AllReadyH.cons rfl (fun K hK => ?_) AllReadyH.nil)
      · go_simp
        refine hK.out _ _ ?_ (fun hHeld => ?_)
        · try dsimp only
          go_keep
        clear hK K
        try simp only [Act.put, List.getElem_toArray, List.getElem_cons_zero, List.getElem_cons_succ, List.setIfInBounds_toArray, List.set_cons_zero, List.set_cons_succ]
        refine wpAnyH_ready (rs := [5]) (by kernel_rfl) (by simp) ?_
        refine AllReadyH.cons rfl (fun K hK => ?_) AllReadyH.nil
        go_simp
        (go_at_call 42; refine (SZ _).mono ?_; rintro e W5 ⟨rfl, B5⟩; have S5 := (HSr.out.later (below_drew _)).later B5; have F5 := (HFr.out.later (below_drew _)).later B5; have s3 := S5.c3; have sz := S5.z 3; have HF5 := Hid.mk F5; obtain ⟨x0, x1, x2, x3⟩ := F5)
        try go_wp2_with fail
        refine hK.out _ _ ?_ (fun hHeld => ?_)
        · try dsimp only
          go_keep
        clear hK K
        try simp only [Act.put, List.getElem_toArray, List.getElem_cons_zero, List.getElem_cons_succ, List.setIfInBounds_toArray, List.set_cons_zero, List.set_cons_succ]
        refine wpAnyH_take (i := 6) (v := ?_) rfl (by kernel_rfl) (by kernel_rfl) (by kernel_rfl) (fun _ _ _ h => h) (Or.inl ⟨by rfl, ?_⟩) (by assumption) ?_
        rotate_left
        · intro w' hSw
          try dsimp only at hSw
          go_simp
          try with_reducible rfl
        try simp only [Act.put, List.getElem_toArray, List.getElem_cons_zero, List.getElem_cons_succ, List.setIfInBounds_toArray, List.set_cons_zero, List.set_cons_succ]
        refine wpAnyH_take (i := 7) (v := ?_) rfl (by kernel_rfl) (by kernel_rfl) (by kernel_rfl) (fun _ _ _ h => h) (Or.inl ⟨by rfl, ?_⟩) (by assumption) ?_
        rotate_left
        · intro w' hSw
          try dsimp only at hSw
          go_simp
          try with_reducible rfl
        try simp only [Act.put, List.getElem_toArray, List.getElem_cons_zero, List.getElem_cons_succ, List.setIfInBounds_toArray, List.set_cons_zero, List.set_cons_succ]
        refine wpAnyH_take (i := 8) (v := ?_) rfl (by kernel_rfl) (by kernel_rfl) (by kernel_rfl) (fun _ _ _ h => h) (Or.inl ⟨by rfl, ?_⟩) (by assumption) ?_
        rotate_left
        · intro w' hSw
          try dsimp only at hSw
          go_simp
          try with_reducible rfl
        try simp only [Act.put, List.getElem_toArray, List.getElem_cons_zero, List.getElem_cons_succ, List.setIfInBounds_toArray, List.set_cons_zero, List.set_cons_succ]
        refine wpAnyH_ready (rs := [9]) (by kernel_rfl) (by simp) ?_
        refine AllReadyH.cons rfl (fun K hK => ?_) AllReadyH.nil
        go_simp
        refine hK.out _ _ ?_ (fun hHeld => ?_)
        · try dsimp only
          go_keep
        clear hK K
        try simp only [Act.put, List.getElem_toArray, List.getElem_cons_zero, List.getElem_cons_succ, List.setIfInBounds_toArray, List.set_cons_zero, List.set_cons_succ]
        refine wpAnyH_done (by kernel_rfl) ?_ _
        have S6 := S5.used u1 (by have := HU1.out; omega) (by have := HU1.out; omega)
        have HF6 : Hid (FrAt (W5.setCell ⟨p, 3, none⟩ (.int .i64 (u1 : Int))) z fk fa fb (.slice o i cap)) := ⟨HF5.out.same (Below.heap_setCell _ _ _ _ (show z ≠ p by omega))⟩
        have HK6 : Hid (Kp p b w (W5.setCell ⟨p, 3, none⟩ (.int .i64 (u1 : Int)))) := ⟨HKr.out.trans ((Kp.of (belowOn (below_drew _) B5)).trans (Kp.box (grown_set _ _ _ _)))⟩
        clear sz s3 x0 x1 x2 x3 HF5 S5 B5 hHeld
        generalize W5.setCell ⟨p, 3, none⟩ (.int .i64 (u1 : Int)) = W6 at *
        have HS6 := Hid.mk S6
        have y3 := S6.c3
        obtain ⟨x0, x1, x2, x3⟩ := HF6.out
        clear S6
        go_wp2
        go_region_held3 (fun W' => W'.cell? ⟨z, 0, none⟩ = some (.int .i64 fk) ∧ W'.cell? ⟨z, 1, none⟩ = some (.int .i64 fa) ∧ W'.cell? ⟨z, 2, none⟩ = some (.int .i64 fb) ∧ W'.cell? ⟨z, 3, none⟩ = some (.slice o i cap) ∧ W'.cell? ⟨p, 3, none⟩ = some (.int .i64 (u1 : Int))) (go_keep) (first
          | (go_at_call 44; refine (LW _).mono ?_; rintro e W7 ⟨rfl, B7⟩; have S7 := (HS6.out.later (below_drew W6)).later B7; have F7 := (HF6.out.later (below_drew W6)).later B7; have HF7 := Hid.mk F7; have q3 := S7.c3; obtain ⟨r0, r1, r2, r3⟩ := F7; have ST := set_any S7 u2 (last f) (by have := HU1.out; omega))
          | (go_at_call 43; refine ST.mono ?_; rintro e W8 ⟨⟨xx, rfl⟩, S8, G8⟩; have t3 := S8.c3; have F8 := HF7.out.same (G8.block z (World.block_lt_of_cell? _ _ r0) (by simp; omega)); obtain ⟨j0, j1, j2, j3⟩ := F8))
        all_goals (have t4 := S8.c4; have tz := S8.z 4)
        all_goals go_wp2
        all_goals go_ret
        all_goals refine ⟨rfl, ⟨_, Hh.out.push hok (HLn.out) (by rw [HU.out, HC.out, HN.out, hm, HU1.out.1]; exact S8.count (c + 1) (by have := HU1.out; omega)), Bes.of HLn.out (by omega) (by rw [HU.out]; simp [HN.out]; omega)⟩, ?_⟩
        all_goals exact HK6.out.trans ((Kp.of (belowOn (below_drew _) B7)).trans ((Kp.words G8).trans (Kp.box (grown_set _ _ _ _))))
      · go_simp
        (go_at_call 42; refine (SZ _).mono ?_; rintro e W5 ⟨rfl, B5⟩; have S5 := (HSr.out.later (below_drew _)).later B5; have F5 := (HFr.out.later (below_drew _)).later B5; have s3 := S5.c3; have sz := S5.z 3; have HF5 := Hid.mk F5; obtain ⟨x0, x1, x2, x3⟩ := F5)
        try go_wp2_with fail
        refine hK.out _ _ ?_ (fun hHeld => ?_)
        · try dsimp only
          go_keep
        clear hK K
        try simp only [Act.put, List.getElem_toArray, List.getElem_cons_zero, List.getElem_cons_succ, List.setIfInBounds_toArray, List.set_cons_zero, List.set_cons_succ]
        refine wpAnyH_ready (rs := [3]) (by kernel_rfl) (by simp) ?_
        refine AllReadyH.cons rfl (fun K hK => ?_) AllReadyH.nil
        go_simp
        refine hK.out _ _ ?_ (fun hHeld => ?_)
        · try dsimp only
          go_keep
        clear hK K
        try simp only [Act.put, List.getElem_toArray, List.getElem_cons_zero, List.getElem_cons_succ, List.setIfInBounds_toArray, List.set_cons_zero, List.set_cons_succ]
        refine wpAnyH_take (i := 6) (v := ?_) rfl (by kernel_rfl) (by kernel_rfl) (by kernel_rfl) (fun _ _ _ h => h) (Or.inl ⟨by rfl, ?_⟩) (by assumption) ?_
        rotate_left
        · intro w' hSw
          try dsimp only at hSw
          go_simp
          try with_reducible rfl
        try simp only [Act.put, List.getElem_toArray, List.getElem_cons_zero, List.getElem_cons_succ, List.setIfInBounds_toArray, List.set_cons_zero, List.set_cons_succ]
        refine wpAnyH_take (i := 7) (v := ?_) rfl (by kernel_rfl) (by kernel_rfl) (by kernel_rfl) (fun _ _ _ h => h) (Or.inl ⟨by rfl, ?_⟩) (by assumption) ?_
        rotate_left
        · intro w' hSw
          try dsimp only at hSw
          go_simp
          try with_reducible rfl
        try simp only [Act.put, List.getElem_toArray, List.getElem_cons_zero, List.getElem_cons_succ, List.setIfInBounds_toArray, List.set_cons_zero, List.set_cons_succ]
        refine wpAnyH_take (i := 8) (v := ?_) rfl (by kernel_rfl) (by kernel_rfl) (by kernel_rfl) (fun _ _ _ h => h) (Or.inl ⟨by rfl, ?_⟩) (by assumption) ?_
        rotate_left
        · intro w' hSw
          try dsimp only at hSw
          go_simp
          try with_reducible rfl
        try simp only [Act.put, List.getElem_toArray, List.getElem_cons_zero, List.getElem_cons_succ, List.setIfInBounds_toArray, List.set_cons_zero, List.set_cons_succ]
        refine wpAnyH_ready (rs := [9]) (by kernel_rfl) (by simp) ?_
        refine AllReadyH.cons rfl (fun K hK => ?_) AllReadyH.nil
        go_simp
        refine hK.out _ _ ?_ (fun hHeld => ?_)
        · try dsimp only
          go_keep
        clear hK K
        try simp only [Act.put, List.getElem_toArray, List.getElem_cons_zero, List.getElem_cons_succ, List.setIfInBounds_toArray, List.set_cons_zero, List.set_cons_succ]
        refine wpAnyH_done (by kernel_rfl) ?_ _
        have S6 := S5.used u1 (by have := HU1.out; omega) (by have := HU1.out; omega)
        have HF6 : Hid (FrAt (W5.setCell ⟨p, 3, none⟩ (.int .i64 (u1 : Int))) z fk fa fb (.slice o i cap)) := ⟨HF5.out.same (Below.heap_setCell _ _ _ _ (show z ≠ p by omega))⟩
        have HK6 : Hid (Kp p b w (W5.setCell ⟨p, 3, none⟩ (.int .i64 (u1 : Int)))) := ⟨HKr.out.trans ((Kp.of (belowOn (below_drew _) B5)).trans (Kp.box (grown_set _ _ _ _)))⟩
        clear sz s3 x0 x1 x2 x3 HF5 S5 B5 hHeld
        generalize W5.setCell ⟨p, 3, none⟩ (.int .i64 (u1 : Int)) = W6 at *
        have HS6 := Hid.mk S6
        have y3 := S6.c3
        obtain ⟨x0, x1, x2, x3⟩ := HF6.out
        clear S6
        go_wp2
        go_region_held3 (fun W' => W'.cell? ⟨z, 0, none⟩ = some (.int .i64 fk) ∧ W'.cell? ⟨z, 1, none⟩ = some (.int .i64 fa) ∧ W'.cell? ⟨z, 2, none⟩ = some (.int .i64 fb) ∧ W'.cell? ⟨z, 3, none⟩ = some (.slice o i cap) ∧ W'.cell? ⟨p, 3, none⟩ = some (.int .i64 (u1 : Int))) (go_keep) (first
          | (go_at_call 44; refine (LW _).mono ?_; rintro e W7 ⟨rfl, B7⟩; have S7 := (HS6.out.later (below_drew W6)).later B7; have F7 := (HF6.out.later (below_drew W6)).later B7; have HF7 := Hid.mk F7; have q3 := S7.c3; obtain ⟨r0, r1, r2, r3⟩ := F7; have ST := set_any S7 u2 (last f) (by have := HU1.out; omega))
          | (go_at_call 43; refine ST.mono ?_; rintro e W8 ⟨⟨xx, rfl⟩, S8, G8⟩; have t3 := S8.c3; have F8 := HF7.out.same (G8.block z (World.block_lt_of_cell? _ _ r0) (by simp; omega)); obtain ⟨j0, j1, j2, j3⟩ := F8))
        all_goals (have t4 := S8.c4; have tz := S8.z 4)
        all_goals go_wp2
        all_goals go_ret
        all_goals refine ⟨rfl, ⟨_, Hh.out.push hok (HLn.out) (by rw [HU.out, HC.out, HN.out, hm, HU1.out.1]; exact S8.count (c + 1) (by have := HU1.out; omega)), Bes.of HLn.out (by omega) (by rw [HU.out]; simp [HN.out]; omega)⟩, ?_⟩
        all_goals exact HK6.out.trans ((Kp.of (belowOn (below_drew _) B7)).trans ((Kp.words G8).trans (Kp.box (grown_set _ _ _ _))))
end Go.Proofs.YtglimbpnekephaaDoor
