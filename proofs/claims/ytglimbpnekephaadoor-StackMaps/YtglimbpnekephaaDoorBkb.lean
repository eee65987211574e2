/- Frames are pushed one behind the other and popped the other way round: the law's walk. -/
import Derived.Test.YtglimbpnekephaaDoorBka
import Derived.Deep.RegionHeld3
namespace Go.Proofs.YtglimbpnekephaaDoor
open Go.RowKit
set_option linter.unusedVariables false
set_option linter.unusedSimpArgs false

theorem Ss.wrote0 {w w' : World} {p a b F N k : Nat} {ws ws' : List Int} (h : Ss w p a b ws F N k []) (h1 : Has w' a b ws') (h2 : w.grownBy w' (some b)) (hl : ws'.length = ws.length) : Ss w' p a b ws' F N k [] :=
  ⟨h.stk.wrote h1 h2 hl, fun f hf => (by cases hf), fun i hi => (by simp [wd] at hi)⟩
def rsOf (ins : List Fp) (j : Nat) : List Fr := ((ins.take j).map Fp.f).reverse
theorem rsOf_succ {ins : List Fp} {j : Nat} (h : j < ins.length) : rsOf ins (j + 1) = (ins[j]'h).f :: rsOf ins j := by
  unfold rsOf
  rw [List.take_succ_eq_append_getElem h, List.map_append, List.reverse_append]
  rfl
/-- the law's state while frames are pushed -/
structure Pu (w W : World) (p a b base : Nat) (ws0 : List Int) (v : Value) (ins : List Fp) : Prop where
  s : ∃ ws, Ss W p a b ws 5 2000 0 (rsOf ins ins.length) ∧ Bes 5 2000 ws0 ws
  r : Rw W base v ins
  b : Below w.heap.size w W
  m : base ≤ W.heap.size
  q : ∀ x ∈ ins, PS w x.o x.c x.f.ps
structure St (w W : World) (p a b base : Nat) : Prop where
  hp : w.heap.size ≤ p ∧ p < base
  ha : w.heap.size ≤ a ∧ a < base
  hb : w.heap.size ≤ b ∧ b < base
theorem rsOf_snoc (ins : List Fp) (x : Fp) : rsOf (ins ++ [x]) (ins ++ [x]).length = x.f :: rsOf ins ins.length := by
  unfold rsOf
  rw [List.take_of_length_le (Nat.le_refl _), List.take_of_length_le (Nat.le_refl _), List.map_append, List.reverse_append]
  rfl
set_option maxRecDepth 100000 in
set_option maxHeartbeats 8000000 in
theorem back_walk (l : List Fr) (sv : Value) (w : World) (T : Table w) (L : Lst w 4 (isFr w) l sv) : Calls Tryd.prog 6 #[sv] w fun e w' => e = .returned (.bool true) ∧ Below w.heap.size w w' := by
  have HL := Hid.mk L
  obtain ⟨ga, cap, rfl, hc, _⟩ := L
  obtain ⟨n, hn⟩ : ∃ n, l.length = n := ⟨_, rfl⟩
  have HN := Hid.mk hn
  rw [hn] at hc ⊢
  have hc1 := hc.1
  have hc2 := hc.2
  have HT := Hid.mk T
  have tl := T.lt
  clear hn hc T
  have MK := made_ok 2000 w (by omega) (by omega)
  rw [show ((2000 : Nat) : Int) = 2000 from rfl] at MK
  have AW := fun W (B : Below w.heap.size w W) => awake_any W (HT.out.later B)
  go_enter Tryd.func6, Tryd.ntmps6
  go_wp2_with (first
    | (go_at_call 9; refine MK.mono ?_; clear MK; rintro e w1 ⟨p, a, b, ws0, rfl, M1⟩; have A1 := AW w1 M1.bel; have HM := Hid.mk M1; clear M1)
    | (go_at_call 10; refine A1.mono ?_; clear A1; rintro e w2 ⟨rfl, B2⟩))
  have HS2 : Hid (Ss w2 p a b ws0 5 2000 0 []) := ⟨HM.out.s.later B2⟩
  have HB2 : Hid (Below w.heap.size w w2) := ⟨belowOn HM.out.bel B2⟩
  have hst : w.heap.size ≤ p ∧ w.heap.size ≤ a ∧ w.heap.size ≤ b := ⟨HM.out.hp, HM.out.ha, HM.out.hb⟩
  have hl0 : ws0.length = 2010 := HM.out.l
  clear B2 HM AW
  go_loopw [5] (fun cv wr => ∃ (i : Nat) (x5 : Int) (wsi : List Int), cv = .int .i64 x5 ∧ x5 = (i : Int) ∧ i ≤ 5 ∧ wsi.length = 2010 ∧ Hid (∀ j, j < i → wsi.getD j 0 = 77 ∧ wsi.getD (2005 + j) 0 = 77) ∧ Hid (Ss wr p a b wsi 5 2000 0 []) ∧ Hid (Below w.heap.size w wr)) (fun cv _ => 5 - (intOf cv).toNat)
  case atStart => exact ⟨0, 0, ws0, rfl, rfl, by omega, hl0, ⟨fun j hj => (by omega)⟩, HS2, HB2⟩
  case round =>
    obtain ⟨i, x5, wsi, rfl, hx5, hi, hwl, H7, HS, HB⟩ := hrel
    by_cases hlt : i < 5
    · subst hx5
      have hlt' : (i : Int) < 5 := by omega
      have W1 := write_any HS.out.stk.ar i 77 (by omega)
      have W2 := fun (W : World) (h : Has W a b (wsi.set i 77)) => write_any h (2005 + i) 77 (by simp; omega)
      rw [show ((2005 + i : Nat) : Int) = 2005 + (i : Int) by omega] at W2
      go_wp2_with (first
        | (go_at_call 17; refine W1.mono ?_; clear W1; rintro e w3 ⟨rfl, A3, G3⟩; have W3 := W2 w3 A3)
        | (go_at_call 17; refine W3.mono ?_; clear W3; rintro e w4 ⟨rfl, A4, G4⟩))
      refine ⟨⟨i + 1, _, (wsi.set i 77).set (2005 + i) 77, rfl, by go_num, by omega, by simp [hwl], ⟨fun j hj => ?_⟩, ⟨(HS.out.wrote0 A3 G3 (by simp)).wrote0 A4 G4 (by simp)⟩, ⟨?_⟩⟩, by simp [intOf]; omega⟩
      · rw [getD_set, getD_set, getD_set, getD_set]
        have h7 := H7.out j
        by_cases e : j = i
        · subst e
          refine ⟨?_, by rw [if_pos ⟨rfl, by simp; omega⟩]⟩
          rw [if_neg (by omega), if_pos ⟨rfl, by omega⟩]
        · have := h7 (by omega)
          refine ⟨?_, ?_⟩
          · rw [if_neg (by omega), if_neg (by omega)]; exact this.1
          · rw [if_neg (by omega), if_neg (by omega)]; exact this.2
      · exact Kp.below (p := b) (b := b) (Kp.below (p := b) (b := b) HB.out (Kp.words G3) HB.out.size hst.2.2 hst.2.2) (Kp.words G4) (Nat.le_trans HB.out.size G3.size) hst.2.2 hst.2.2
    · obtain rfl : x5 = 5 := by omega
      obtain rfl : i = 5 := by omega
      clear hx5
      obtain ⟨base, hbase⟩ : ∃ x, x = wr.heap.size := ⟨_, rfl⟩
      have lt5 := HS.out.lt
      have hs1 : p < base ∧ a < base ∧ b < base := by omega
      have P0 : Hid (Pu w wr p a b base wsi (.slice none 0 0) []) := ⟨⟨⟨wsi, HS.out, Bes.refl _ _ _⟩, Rw.nil _ _, HB.out, by omega, fun x hx => (by cases hx)⟩⟩
      clear HS HB hbase lt5
      go_wp2
      go_loopw [6, 7] (fun v6 cv wx => ∃ (x7 : Int) (i : Nat) (ins : List Fp), cv = .int .i64 x7 ∧ Hid (x7 = (i : Int)) ∧ i ≤ n ∧ i ≤ 50 ∧ ins.length ≤ i ∧ Hid (Pu w wx p a b base wsi v6 ins)) (fun _ cv _ => n - (intOf cv).toNat)
      case atStart => exact ⟨0, 0, [], rfl, ⟨rfl⟩, Nat.zero_le _, by omega, by simp, P0⟩
      case round =>
        obtain ⟨x7, i, ins, rfl, hx7, hi1, hi2, hil, HP⟩ := hrel
        by_cases hlt2 : i < n ∧ i < 50
        · obtain rfl : x7 = (i : Int) := hx7.out
          clear hx7
          have kl : i < l.length := by rw [HN.out]; exact hlt2.1
          obtain ⟨g, off, cap', c, e, _, _, pc, hx⟩ := HL.out.get i kl
          rw [HN.out] at e
          simp only [Value.slice.injEq] at e
          obtain ⟨rfl, _, rfl⟩ := e
          obtain ⟨o, fc, rfl, PF⟩ := pc
          have gl : g < w.heap.size := World.block_lt_of_cell? _ _ (hx 0 _ rfl)
          have gl2 := HP.out.b.size
          have hx' : ∀ j u, _ → wr.cell? ⟨g, off + i * 4 + j, none⟩ = some u := fun j u h => (HP.out.b.cell (p := ⟨g, off + i * 4 + j, none⟩) (World.block_lt_of_cell? _ _ (hx j u h))).trans (hx j u h)
          have c0 : wr.cell? ⟨g, off + i * 4, none⟩ = some (.int .i64 (l[i]'kl).k) := hx' 0 _ rfl
          have c1 : wr.cell? ⟨g, off + i * 4 + 1, none⟩ = some (.int .i64 (l[i]'kl).a) := hx' 1 _ rfl
          have c2 : wr.cell? ⟨g, off + i * 4 + 2, none⟩ = some (.int .i64 (l[i]'kl).b) := hx' 2 _ rfl
          have c3 : wr.cell? ⟨g, off + i * 4 + 3, none⟩ = some (.slice o (l[i]'kl).ps.length fc) := hx' 3 _ rfl
          obtain ⟨wsx, Sx, Bx'⟩ := HP.out.s
          have PU := push_any Sx (l[i]'kl) o fc (HT.out.later HP.out.b) (PF.later HP.out.b) (off_old PF hst.1) (off_old PF hst.2.2)
          generalize l[i]'kl = f at *
          have HPF := Hid.mk PF
          have HBe := Hid.mk Bx'
          have lt1 : (i : Int) < n := by omega
          have lt2 : (i : Int) < 50 := by omega
          unfold fv at PU
          obtain ⟨fk, hfk⟩ : ∃ x, x = f.k := ⟨_, rfl⟩
          obtain ⟨fa, hfa⟩ : ∃ x, x = f.a := ⟨_, rfl⟩
          obtain ⟨fb, hfb⟩ : ∃ x, x = f.b := ⟨_, rfl⟩
          obtain ⟨fn, hfn⟩ : ∃ x, x = f.ps.length := ⟨_, rfl⟩
          simp only [← hfk, ← hfa, ← hfb, ← hfn] at c0 c1 c2 c3 PU
          have HF : Hid (fk = f.k ∧ fa = f.a ∧ fb = f.b ∧ fn = f.ps.length) := ⟨hfk, hfa, hfb, hfn⟩
          clear hfk hfa hfb hfn hx hx' Bx' Sx PF
          have cur : ∀ (W : World), Kp p b wr W → W.cell? ⟨g, off + i * 4, none⟩ = some (.int .i64 fk) ∧ W.cell? ⟨g, off + i * 4 + 1, none⟩ = some (.int .i64 fa) ∧ W.cell? ⟨g, off + i * 4 + 2, none⟩ = some (.int .i64 fb) ∧ W.cell? ⟨g, off + i * 4 + 3, none⟩ = some (.slice o fn fc) := fun W K => by
            have e := K.block g (by omega) (by omega) (by omega)
            exact ⟨(World.cell?_of_block (w := wr) (a := ⟨g, off + i * 4, none⟩) e).trans c0, (World.cell?_of_block (w := wr) (a := ⟨g, off + i * 4 + 1, none⟩) e).trans c1, (World.cell?_of_block (w := wr) (a := ⟨g, off + i * 4 + 2, none⟩) e).trans c2, (World.cell?_of_block (w := wr) (a := ⟨g, off + i * 4 + 3, none⟩) e).trans c3⟩
          by_cases hpe : pushE 2000 (wd (rsOf ins ins.length)).length f = 0
          · simp only [hpe, if_true] at PU
            clear hpe
            go_wp2_with (first
              | (go_at_call 18; refine PU.mono ?_; clear PU; rintro e w3 ⟨rfl, ⟨ws3, S3, E3⟩, K3⟩; obtain ⟨d0, d1, d2, d3⟩ := cur w3 K3; have HR3 := Hid.mk (HP.out.r.kept K3 hs1.1 hs1.2.2); have HS3 := Hid.mk S3; have HE3 := Hid.mk E3; have HK3 := Hid.mk K3; clear K3 S3 E3)
              | (at_builtin; obtain ⟨i0, hi, hz0, hz1, hz2⟩ := info_parts info36; refine wpList_append_own _ rfl _ _ 29 rfl base 36 i0 _ 4 48 Tryd.underlying29 hi hz0 hz1 hz2 rfl (by decide) u6 ins.length (cellsF ins) rfl (HR3.out.later (show Below w3.heap.size w3 (w3.alloc (Obj.cells #[.int .i64 fk, .int .i64 fa, .int .i64 fb, .slice o fn fc] 36)) by go_grown)) ⟨w3.heap.size, 0, none⟩ 1 1 [.int .i64 fk, .int .i64 fa, .int .i64 fb, .slice o fn fc] rfl rfl (World.news_of_block (heap_alloc_new w3 (Obj.cells #[.int .i64 fk, .int .i64 fa, .int .i64 fb, .slice o fn fc] 36))) (by simp [Value.oneCell']) (by show _ ≤ 9223372036854775807; omega) (by omega) (by have := HP.out.m; have := HK3.out.size; simp; omega) ?_; intro v' w5 hown' hgrow' _; clear hi hz0 hz1 hz2))
            obtain ⟨rfl, rfl, rfl, rfl⟩ := HF.out
            obtain ⟨R5, K5⟩ := rw_more (x := ⟨f, o, fc⟩) (HR3.out.later (show Below w3.heap.size w3 (w3.alloc (Obj.cells #[.int .i64 f.k, .int .i64 f.a, .int .i64 f.b, .slice o f.ps.length fc] 36)) by go_grown)) hown' hgrow'
            have l3 := HS3.out.lt
            have m3 := HK3.out.size
            have mP := HP.out.m
            have E5 : ∀ k, k < w3.heap.size → k < base → w5.heap[k]? = w3.heap[k]? := fun k h1 h2 => (K5 k (by simp; omega) h2).trans (Below.heap_alloc _ _ _ h1)
            have B3 := Kp.below HP.out.b HK3.out HP.out.b.size hst.1 hst.2.2
            have s5 : w3.heap.size ≤ w5.heap.size := by have := hgrow'.size; simp at this; omega
            refine ⟨⟨_, i + 1, ins ++ [⟨f, o, fc⟩], rfl, ⟨by go_num⟩, by omega, by omega, by simp; omega, ⟨⟨⟨ws3, ?_, HBe.out.trans HE3.out⟩, R5, ?_, by omega, ?_⟩⟩⟩, by simp [intOf]; omega⟩
            · rw [rsOf_snoc]
              exact ⟨HS3.out.stk.same (E5 p l3.1 hs1.1) (E5 a l3.2.1 hs1.2.1) (E5 b l3.2.2 hs1.2.2), HS3.out.ok, HS3.out.eq⟩
            · exact ⟨hgrow'.os.trans B3.os, hgrow'.tape.trans B3.tape, hgrow'.output.trans B3.output, Nat.le_trans B3.size s5, fun k hk => (E5 k (Nat.lt_of_lt_of_le hk B3.size) (by omega)).trans (B3.block k hk)⟩
            · intro x hx
              rcases List.mem_append.1 hx with h | h
              · exact HP.out.q x h
              · simp only [List.mem_singleton] at h
                subst h
                exact HPF.out
          · have hpb : (pushE 2000 (wd (rsOf ins ins.length)).length f == 0) = false := by simp [hpe]
            simp only [if_neg hpe] at PU
            generalize pushE 2000 (wd (rsOf ins ins.length)).length f = E at *
            go_wp2_with (first
              | (go_at_call 18; refine PU.mono ?_; clear PU; rintro e w3 ⟨rfl, ⟨ws3, S3, E3⟩, K3⟩))
            exact ⟨⟨_, i + 1, ins, rfl, ⟨by go_num⟩, by omega, by omega, by omega, ⟨⟨⟨ws3, S3, HBe.out.trans E3⟩, HP.out.r.kept K3 hs1.1 hs1.2.2, Kp.below HP.out.b K3 HP.out.b.size hst.1 hst.2.2, Nat.le_trans HP.out.m K3.size, HP.out.q⟩⟩⟩, by simp [intOf]; omega⟩
        · by_cases hq : i < n
          · have f1 : x7 < (n : Int) := by have := hx7.out; omega
            have f2 : (50 : Int) ≤ x7 := by have := hx7.out; omega
            have lns : ins.length ≤ 50 := by omega
            obtain ⟨wsN, SN, BN⟩ := HP.out.s
            have HQ3 : Hid (Rw wr base u6 ins ∧ Ss wr p a b wsN 5 2000 0 (rsOf ins ins.length) ∧ Below w.heap.size w wr ∧ base ≤ wr.heap.size) := ⟨HP.out.r, SN, HP.out.b, HP.out.m⟩
            have HBN := Hid.mk BN
            have Hq := Hid.mk HP.out.q
            obtain ⟨ga6, cp6, rfl, hcp6⟩ := HP.out.r.form
            obtain ⟨m, hm⟩ : ∃ m, ins.length = m := ⟨_, rfl⟩
            have HMm := Hid.mk hm
            rw [hm] at hcp6 lns HQ3 ⊢
            clear HP SN BN hm hil
            go_wp2
            go_loopw [8] (fun cv wx => ∃ (x : Int) (j : Nat), cv = .int .i64 x ∧ x = (j : Int) - 1 ∧ j ≤ m ∧ Hid (Rw wx base (.slice ga6 m cp6) ins ∧ Ss wx p a b wsN 5 2000 0 (rsOf ins j) ∧ Below w.heap.size w wx ∧ base ≤ wx.heap.size)) (fun cv _ => (intOf cv + 1).toNat)
            case atStart => exact ⟨_, m, rfl, rfl, Nat.le_refl _, HQ3⟩
            case round =>
              clear HQ3
              obtain ⟨x, j, rfl, hx8, hj, HQ⟩ := hrel
              by_cases hj0 : 0 < j
              · obtain ⟨j', rfl⟩ : ∃ j', j = j' + 1 := ⟨j - 1, by omega⟩
                obtain rfl : x = (j' : Int) := by omega
                clear hx8
                have kl : j' < ins.length := by rw [HMm.out]; omega
                have e0 := rsOf_succ kl
                have PO : Calls Tryd.prog 19 #[.pointer (some ⟨p, 0, none⟩)] wr fun e w' => ∃ o cp, e = .returned (.tuple #[fv (ins[j']'kl).f o cp, .int .i64 0]) ∧ PS w' o cp (ins[j']'kl).f.ps ∧ Ss w' p a b wsN 5 2000 0 (rsOf ins j') ∧ Kp p b wr w' := by
                  have h1 := HQ.out.2.1
                  rw [e0] at h1
                  refine Calls.mono (pop_go h1 (by omega)) ?_
                  rintro e w' ⟨⟨h, _⟩ | ⟨f, r, o, cp, hfr, rfl, hps, _, S5⟩, K5⟩
                  · cases h
                  · cases hfr
                    rw [Nat.zero_min] at S5
                    exact ⟨o, cp, rfl, hps, S5, K5⟩
                have Hx := Hid.mk (Hq.out (ins[j']'kl) (List.getElem_mem kl))
                have HG : Hid (∀ W, Rw W base (.slice ga6 m cp6) ins → ∃ g cap, Value.slice ga6 m cp6 = .slice (some ⟨g, 0, none⟩) ins.length cap ∧ ins.length ≤ cap ∧ base ≤ g ∧ W.cell? ⟨g, j' * 4, none⟩ = some (.int .i64 (ins[j']'kl).f.k) ∧ W.cell? ⟨g, j' * 4 + 1, none⟩ = some (.int .i64 (ins[j']'kl).f.a) ∧ W.cell? ⟨g, j' * 4 + 2, none⟩ = some (.int .i64 (ins[j']'kl).f.b) ∧ W.cell? ⟨g, j' * 4 + 3, none⟩ = some (.slice (ins[j']'kl).o (ins[j']'kl).f.ps.length (ins[j']'kl).c)) := ⟨fun W h => h.get j' kl⟩
                generalize ins[j']'kl = xx at *
                obtain ⟨f, o2, c2⟩ := xx
                dsimp only at *
                have SM := fun o1 c1 W h1 h2 => same_any f o1 o2 c1 c2 W h1 h2
                unfold fv at *
                obtain ⟨fk, hfk⟩ : ∃ x, x = f.k := ⟨_, rfl⟩
                obtain ⟨fa, hfa⟩ : ∃ x, x = f.a := ⟨_, rfl⟩
                obtain ⟨fb, hfb⟩ : ∃ x, x = f.b := ⟨_, rfl⟩
                obtain ⟨fn, hfn⟩ : ∃ x, x = f.ps.length := ⟨_, rfl⟩
                simp only [← hfk, ← hfa, ← hfb, ← hfn] at PO SM HG
                clear hfk hfa hfb hfn e0
                obtain ⟨g6, cq, e6, _, bg, _⟩ := HG.out wr HQ.out.1
                simp only [Value.slice.injEq] at e6
                obtain ⟨rfl, hq9, rfl⟩ := e6
                clear hq9
                have HG2 : Hid (∀ W, Rw W base (.slice (some ⟨g6, 0, none⟩) m cp6) ins → W.cell? ⟨g6, j' * 4, none⟩ = some (.int .i64 fk) ∧ W.cell? ⟨g6, j' * 4 + 1, none⟩ = some (.int .i64 fa) ∧ W.cell? ⟨g6, j' * 4 + 2, none⟩ = some (.int .i64 fb) ∧ W.cell? ⟨g6, j' * 4 + 3, none⟩ = some (.slice o2 fn c2)) := ⟨fun W h => by
                  obtain ⟨g7, cq7, e7, _, _, r⟩ := HG.out W h
                  simp only [Value.slice.injEq, Option.some.injEq, Addr.mk.injEq, and_true] at e7
                  obtain ⟨rfl, _⟩ := e7
                  exact r⟩
                have jm : j' < m := by omega
                have jm' : (j' : Int) < m := by omega
                clear HG
                go_wp2_with (first
                  | (go_at_call 19; refine PO.mono ?_; clear PO; rintro e w5 ⟨o1, c1, rfl, hps, S5, K5⟩; have HR5 := Hid.mk (HQ.out.1.kept K5 hs1.1 hs1.2.2); have HS5 := Hid.mk S5; have HK5 := Hid.mk K5; have HPS := Hid.mk hps; clear S5 K5 hps))
                have F6 := FrAt.fresh w5 fk fa fb (.slice o1 fn c1)
                have HB6 : Hid (Below w5.heap.size w5 (w5.alloc (Obj.cells #[.int .i64 fk, .int .i64 fa, .int .i64 fb, .slice o1 fn c1] 36))) := ⟨by go_grown⟩
                have HR6 := Hid.mk (HR5.out.later HB6.out)
                have HF6 := Hid.mk F6
                generalize w5.alloc (Obj.cells #[.int .i64 fk, .int .i64 fa, .int .i64 fb, .slice o1 fn c1] 36) = W6 at *
                obtain ⟨z, hz⟩ : ∃ z, z = w5.heap.size := ⟨_, rfl⟩
                rw [← hz] at HF6 ⊢
                clear F6 hz
                obtain ⟨x0, x1, x2, x3⟩ := HF6.out
                obtain ⟨y0, y1, y2, y3⟩ := HG2.out W6 HR6.out
                have B5 : Below w.heap.size w w5 := Kp.below HQ.out.2.2.1 HK5.out HQ.out.2.2.1.size hst.1 hst.2.2
                have HB7 : Hid (Below w.heap.size w W6) := ⟨belowOn B5 HB6.out⟩
                have S1 := SM o1 c1 W6.drew (HPS.out.later (belowOn HB6.out (below_drew W6))) (Hx.out.later (belowOn HB7.out (below_drew W6)))
                clear B5 SM
                go_region_held3 (fun W' => W'.cell? ⟨z, 0, none⟩ = some (.int .i64 fk) ∧ W'.cell? ⟨z, 1, none⟩ = some (.int .i64 fa) ∧ W'.cell? ⟨z, 2, none⟩ = some (.int .i64 fb) ∧ W'.cell? ⟨z, 3, none⟩ = some (.slice o1 fn c1) ∧ W'.cell? ⟨g6, j' * 4, none⟩ = some (.int .i64 fk) ∧ W'.cell? ⟨g6, j' * 4 + 1, none⟩ = some (.int .i64 fa) ∧ W'.cell? ⟨g6, j' * 4 + 2, none⟩ = some (.int .i64 fb) ∧ W'.cell? ⟨g6, j' * 4 + 3, none⟩ = some (.slice o2 fn c2)) (go_keep) (first
                  | (go_at_call 20; refine S1.mono ?_; clear S1; rintro e w7 ⟨rfl, B7'⟩; have B7 := belowOn (below_drew W6) B7'; obtain ⟨p0, p1, p2, p3⟩ := HF6.out.later B7; have HR7 := Hid.mk (HR6.out.later B7); obtain ⟨r0, r1, r2, r3⟩ := HG2.out w7 HR7.out))
                go_wp2
                go_roundw
                case rel => exact ⟨_, j', rfl, by first | rfl | omega, by omega, ⟨HR7.out, (HS5.out.later HB6.out).later B7, belowOn HB7.out B7, by have h1 := HQ.out.2.2.2; have h2 := HK5.out.size; have h3 := HB6.out.size; have h4 := B7.size; omega⟩⟩
                case measure => simp [intOf] <;> omega
              · obtain rfl : j = 0 := by omega
                obtain rfl : x = -1 := by omega
                clear hx8 hj0
                obtain ⟨wc, hwc⟩ : ∃ y, y = wr := ⟨_, rfl⟩
                have HQ0 : Hid (Ss wc p a b wsN 5 2000 0 [] ∧ Below w.heap.size w wc) := ⟨by rw [hwc]; exact ⟨HQ.out.2.1, HQ.out.2.2.1⟩⟩
                rw [← hwc]
                clear HQ hwc
                go_wp2
                go_loopw [11] (fun cv wx => ∃ (y : Int) (q : Nat), cv = .int .i64 y ∧ y = (q : Int) ∧ q ≤ 5 ∧ wx = wc) (fun cv _ => 5 - (intOf cv).toNat)
                case atStart => exact ⟨_, 0, rfl, rfl, by omega, rfl⟩
                case round =>
                  obtain ⟨y, q, rfl, hy, hq5, rfl⟩ := hrel
                  by_cases hq6 : q < 5
                  · subst hy
                    have hq7 : (q : Int) < 5 := by omega
                    have wl := HBN.out.len
                    have v1 : wsN.getD q 0 = 77 := by rw [HBN.out.out q (by omega)]; exact (H7.out q hq6).1
                    have v2 : wsN.getD (2005 + q) 0 = 77 := by rw [HBN.out.out (2005 + q) (by omega)]; exact (H7.out q hq6).2
                    have R1 := read_any HQ0.out.1.stk.ar q (by omega)
                    have R2 := read_any HQ0.out.1.stk.ar (2005 + q) (by omega)
                    rw [v1] at R1
                    rw [v2, show ((2005 + q : Nat) : Int) = 2005 + (q : Int) by omega] at R2
                    clear v1 v2 wl
                    go_wp2_with (first
                      | (go_at_call 21; refine R1.mono ?_; clear R1; rintro e w' ⟨rfl, rfl⟩)
                      | (go_at_call 21; refine R2.mono ?_; clear R2; rintro e w' ⟨rfl, rfl⟩))
                    exact ⟨⟨_, q + 1, rfl, by go_num, by omega, by first | rfl | trivial⟩, by simp [intOf]; omega⟩
                  · obtain rfl : y = 5 := by omega
                    have CN := count_any HQ0.out.1.stk
                    have US := used_any HQ0.out.1.stk
                    have e1 : ((([] : List Fr).length : Nat) : Int) = 0 := rfl
                    have e2 : (((wd []).length : Nat) : Int) = 0 := rfl
                    rw [e1] at CN
                    rw [e2] at US
                    clear e1 e2
                    go_wp2_with (first
                      | (go_at_call 22; refine CN.mono ?_; rintro e w' ⟨rfl, rfl⟩)
                      | (go_at_call 23; refine US.mono ?_; rintro e w' ⟨rfl, rfl⟩))
                    go_ret
                    exact ⟨rfl, HQ0.out.2⟩
          · have f1 : (n : Int) ≤ x7 := by have := hx7.out; omega
            have lns : ins.length ≤ 50 := by omega
            obtain ⟨wsN, SN, BN⟩ := HP.out.s
            have HQ3 : Hid (Rw wr base u6 ins ∧ Ss wr p a b wsN 5 2000 0 (rsOf ins ins.length) ∧ Below w.heap.size w wr ∧ base ≤ wr.heap.size) := ⟨HP.out.r, SN, HP.out.b, HP.out.m⟩
            have HBN := Hid.mk BN
            have Hq := Hid.mk HP.out.q
            obtain ⟨ga6, cp6, rfl, hcp6⟩ := HP.out.r.form
            obtain ⟨m, hm⟩ : ∃ m, ins.length = m := ⟨_, rfl⟩
            have HMm := Hid.mk hm
            rw [hm] at hcp6 lns HQ3 ⊢
            clear HP SN BN hm hil
            go_wp2
            go_loopw [8] (fun cv wx => ∃ (x : Int) (j : Nat), cv = .int .i64 x ∧ x = (j : Int) - 1 ∧ j ≤ m ∧ Hid (Rw wx base (.slice ga6 m cp6) ins ∧ Ss wx p a b wsN 5 2000 0 (rsOf ins j) ∧ Below w.heap.size w wx ∧ base ≤ wx.heap.size)) (fun cv _ => (intOf cv + 1).toNat)
            case atStart => exact ⟨_, m, rfl, rfl, Nat.le_refl _, HQ3⟩
            case round =>
              clear HQ3
              obtain ⟨x, j, rfl, hx8, hj, HQ⟩ := hrel
              by_cases hj0 : 0 < j
              · obtain ⟨j', rfl⟩ : ∃ j', j = j' + 1 := ⟨j - 1, by omega⟩
                obtain rfl : x = (j' : Int) := by omega
                clear hx8
                have kl : j' < ins.length := by rw [HMm.out]; omega
                have e0 := rsOf_succ kl
                have PO : Calls Tryd.prog 19 #[.pointer (some ⟨p, 0, none⟩)] wr fun e w' => ∃ o cp, e = .returned (.tuple #[fv (ins[j']'kl).f o cp, .int .i64 0]) ∧ PS w' o cp (ins[j']'kl).f.ps ∧ Ss w' p a b wsN 5 2000 0 (rsOf ins j') ∧ Kp p b wr w' := by
                  have h1 := HQ.out.2.1
                  rw [e0] at h1
                  refine Calls.mono (pop_go h1 (by omega)) ?_
                  rintro e w' ⟨⟨h, _⟩ | ⟨f, r, o, cp, hfr, rfl, hps, _, S5⟩, K5⟩
                  · cases h
                  · cases hfr
                    rw [Nat.zero_min] at S5
                    exact ⟨o, cp, rfl, hps, S5, K5⟩
                have Hx := Hid.mk (Hq.out (ins[j']'kl) (List.getElem_mem kl))
                have HG : Hid (∀ W, Rw W base (.slice ga6 m cp6) ins → ∃ g cap, Value.slice ga6 m cp6 = .slice (some ⟨g, 0, none⟩) ins.length cap ∧ ins.length ≤ cap ∧ base ≤ g ∧ W.cell? ⟨g, j' * 4, none⟩ = some (.int .i64 (ins[j']'kl).f.k) ∧ W.cell? ⟨g, j' * 4 + 1, none⟩ = some (.int .i64 (ins[j']'kl).f.a) ∧ W.cell? ⟨g, j' * 4 + 2, none⟩ = some (.int .i64 (ins[j']'kl).f.b) ∧ W.cell? ⟨g, j' * 4 + 3, none⟩ = some (.slice (ins[j']'kl).o (ins[j']'kl).f.ps.length (ins[j']'kl).c)) := ⟨fun W h => h.get j' kl⟩
                generalize ins[j']'kl = xx at *
                obtain ⟨f, o2, c2⟩ := xx
                dsimp only at *
                have SM := fun o1 c1 W h1 h2 => same_any f o1 o2 c1 c2 W h1 h2
                unfold fv at *
                obtain ⟨fk, hfk⟩ : ∃ x, x = f.k := ⟨_, rfl⟩
                obtain ⟨fa, hfa⟩ : ∃ x, x = f.a := ⟨_, rfl⟩
                obtain ⟨fb, hfb⟩ : ∃ x, x = f.b := ⟨_, rfl⟩
                obtain ⟨fn, hfn⟩ : ∃ x, x = f.ps.length := ⟨_, rfl⟩
                simp only [← hfk, ← hfa, ← hfb, ← hfn] at PO SM HG
                clear hfk hfa hfb hfn e0
                obtain ⟨g6, cq, e6, _, bg, _⟩ := HG.out wr HQ.out.1
                simp only [Value.slice.injEq] at e6
                obtain ⟨rfl, hq9, rfl⟩ := e6
                clear hq9
                have HG2 : Hid (∀ W, Rw W base (.slice (some ⟨g6, 0, none⟩) m cp6) ins → W.cell? ⟨g6, j' * 4, none⟩ = some (.int .i64 fk) ∧ W.cell? ⟨g6, j' * 4 + 1, none⟩ = some (.int .i64 fa) ∧ W.cell? ⟨g6, j' * 4 + 2, none⟩ = some (.int .i64 fb) ∧ W.cell? ⟨g6, j' * 4 + 3, none⟩ = some (.slice o2 fn c2)) := ⟨fun W h => by
                  obtain ⟨g7, cq7, e7, _, _, r⟩ := HG.out W h
                  simp only [Value.slice.injEq, Option.some.injEq, Addr.mk.injEq, and_true] at e7
                  obtain ⟨rfl, _⟩ := e7
                  exact r⟩
                have jm : j' < m := by omega
                have jm' : (j' : Int) < m := by omega
                clear HG
                go_wp2_with (first
                  | (go_at_call 19; refine PO.mono ?_; clear PO; rintro e w5 ⟨o1, c1, rfl, hps, S5, K5⟩; have HR5 := Hid.mk (HQ.out.1.kept K5 hs1.1 hs1.2.2); have HS5 := Hid.mk S5; have HK5 := Hid.mk K5; have HPS := Hid.mk hps; clear S5 K5 hps))
                have F6 := FrAt.fresh w5 fk fa fb (.slice o1 fn c1)
                have HB6 : Hid (Below w5.heap.size w5 (w5.alloc (Obj.cells #[.int .i64 fk, .int .i64 fa, .int .i64 fb, .slice o1 fn c1] 36))) := ⟨by go_grown⟩
                have HR6 := Hid.mk (HR5.out.later HB6.out)
                have HF6 := Hid.mk F6
                generalize w5.alloc (Obj.cells #[.int .i64 fk, .int .i64 fa, .int .i64 fb, .slice o1 fn c1] 36) = W6 at *
                obtain ⟨z, hz⟩ : ∃ z, z = w5.heap.size := ⟨_, rfl⟩
                rw [← hz] at HF6 ⊢
                clear F6 hz
                obtain ⟨x0, x1, x2, x3⟩ := HF6.out
                obtain ⟨y0, y1, y2, y3⟩ := HG2.out W6 HR6.out
                have B5 : Below w.heap.size w w5 := Kp.below HQ.out.2.2.1 HK5.out HQ.out.2.2.1.size hst.1 hst.2.2
                have HB7 : Hid (Below w.heap.size w W6) := ⟨belowOn B5 HB6.out⟩
                have S1 := SM o1 c1 W6.drew (HPS.out.later (belowOn HB6.out (below_drew W6))) (Hx.out.later (belowOn HB7.out (below_drew W6)))
                clear B5 SM
                go_region_held3 (fun W' => W'.cell? ⟨z, 0, none⟩ = some (.int .i64 fk) ∧ W'.cell? ⟨z, 1, none⟩ = some (.int .i64 fa) ∧ W'.cell? ⟨z, 2, none⟩ = some (.int .i64 fb) ∧ W'.cell? ⟨z, 3, none⟩ = some (.slice o1 fn c1) ∧ W'.cell? ⟨g6, j' * 4, none⟩ = some (.int .i64 fk) ∧ W'.cell? ⟨g6, j' * 4 + 1, none⟩ = some (.int .i64 fa) ∧ W'.cell? ⟨g6, j' * 4 + 2, none⟩ = some (.int .i64 fb) ∧ W'.cell? ⟨g6, j' * 4 + 3, none⟩ = some (.slice o2 fn c2)) (go_keep) (first
                  | (go_at_call 20; refine S1.mono ?_; clear S1; rintro e w7 ⟨rfl, B7'⟩; have B7 := belowOn (below_drew W6) B7'; obtain ⟨p0, p1, p2, p3⟩ := HF6.out.later B7; have HR7 := Hid.mk (HR6.out.later B7); obtain ⟨r0, r1, r2, r3⟩ := HG2.out w7 HR7.out))
                go_wp2
                go_roundw
                case rel => exact ⟨_, j', rfl, by first | rfl | omega, by omega, ⟨HR7.out, (HS5.out.later HB6.out).later B7, belowOn HB7.out B7, by have h1 := HQ.out.2.2.2; have h2 := HK5.out.size; have h3 := HB6.out.size; have h4 := B7.size; omega⟩⟩
                case measure => simp [intOf] <;> omega
              · obtain rfl : j = 0 := by omega
                obtain rfl : x = -1 := by omega
                clear hx8 hj0
                obtain ⟨wc, hwc⟩ : ∃ y, y = wr := ⟨_, rfl⟩
                have HQ0 : Hid (Ss wc p a b wsN 5 2000 0 [] ∧ Below w.heap.size w wc) := ⟨by rw [hwc]; exact ⟨HQ.out.2.1, HQ.out.2.2.1⟩⟩
                rw [← hwc]
                clear HQ hwc
                go_wp2
                go_loopw [11] (fun cv wx => ∃ (y : Int) (q : Nat), cv = .int .i64 y ∧ y = (q : Int) ∧ q ≤ 5 ∧ wx = wc) (fun cv _ => 5 - (intOf cv).toNat)
                case atStart => exact ⟨_, 0, rfl, rfl, by omega, rfl⟩
                case round =>
                  obtain ⟨y, q, rfl, hy, hq5, rfl⟩ := hrel
                  by_cases hq6 : q < 5
                  · subst hy
                    have hq7 : (q : Int) < 5 := by omega
                    have wl := HBN.out.len
                    have v1 : wsN.getD q 0 = 77 := by rw [HBN.out.out q (by omega)]; exact (H7.out q hq6).1
                    have v2 : wsN.getD (2005 + q) 0 = 77 := by rw [HBN.out.out (2005 + q) (by omega)]; exact (H7.out q hq6).2
                    have R1 := read_any HQ0.out.1.stk.ar q (by omega)
                    have R2 := read_any HQ0.out.1.stk.ar (2005 + q) (by omega)
                    rw [v1] at R1
                    rw [v2, show ((2005 + q : Nat) : Int) = 2005 + (q : Int) by omega] at R2
                    clear v1 v2 wl
                    go_wp2_with (first
                      | (go_at_call 21; refine R1.mono ?_; clear R1; rintro e w' ⟨rfl, rfl⟩)
                      | (go_at_call 21; refine R2.mono ?_; clear R2; rintro e w' ⟨rfl, rfl⟩))
                    exact ⟨⟨_, q + 1, rfl, by go_num, by omega, by first | rfl | trivial⟩, by simp [intOf]; omega⟩
                  · obtain rfl : y = 5 := by omega
                    have CN := count_any HQ0.out.1.stk
                    have US := used_any HQ0.out.1.stk
                    have e1 : ((([] : List Fr).length : Nat) : Int) = 0 := rfl
                    have e2 : (((wd []).length : Nat) : Int) = 0 := rfl
                    rw [e1] at CN
                    rw [e2] at US
                    clear e1 e2
                    go_wp2_with (first
                      | (go_at_call 22; refine CN.mono ?_; rintro e w' ⟨rfl, rfl⟩)
                      | (go_at_call 23; refine US.mono ?_; rintro e w' ⟨rfl, rfl⟩))
                    go_ret
                    exact ⟨rfl, HQ0.out.2⟩
end Go.Proofs.YtglimbpnekephaaDoor
