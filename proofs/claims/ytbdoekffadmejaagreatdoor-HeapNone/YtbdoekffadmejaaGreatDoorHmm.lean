/- Package heap: pointers are put; the barrier; Set. -/
import Derived.Test.YtbdoekffadmejaaGreatDoorHml
import Derived.BigQuiet
namespace Go.Proofs.YtbdoekffadmejaaGreatDoor
open Go.RowKit
set_option linter.unusedVariables false
set_option linter.unusedSimpArgs false
set_option maxRecDepth 100000

theorem fld2 (a b c d : Value) (w : World) : (Instr.field 30 (.agg #[a, b, c, d]) 2).run Tryz.prog w = .ok c w := by kernel_rfl
theorem fld0 (a b c d : Value) (w : World) : (Instr.field 30 (.agg #[a, b, c, d]) 0).run Tryz.prog w = .ok a w := by kernel_rfl
theorem fldg (a b : Value) (w : World) : (Instr.field 105 (.agg #[a, b]) 0).run Tryz.prog w = .ok a w := by kernel_rfl
theorem unP_in (x : Int) : 0 ≤ Wo.unP x ∧ Wo.unP x ≤ 4095 := by
  unfold Wo.unP
  split
  · exact Wo.uP_bd x
  · omega
/-- a closure's header's number of pointers -/
def Hs.pn (H : Hs) (x : Int) : Int := Wo.unP (Bp.Ar.readW H.xs x)
def Hs.wr (H : Hs) (i v : Int) : Hs := { H with xs := Bp.Ar.writeL H.xs i v }
def putE (H : Hs) (x i p : Int) : Int := if isC H x = false then 4 else if oneB i (H.pn x) = false then 45 else if mayP H p = false then 4 else 0
theorem isC_in {w : World} {γ : Nat → Tg} {h : Nat} {k : Value} {A : Ad} {H : Hs} (q : Hm w γ h k A H) {y : Int} (m : isC H y = true) : 1 ≤ y ∧ y < H.c.b * 64 ∧ y ≤ 300000 := by
  unfold isC at m
  obtain ⟨v, hv⟩ := Option.isSome_iff_exists.1 m
  have := q.dom y v.1 v.2 hv
  have := q.ok.b
  omega
section
variable {w : World} {γ : Nat → Tg} {h : Nat} {k : Value} {A : Ad} {H : Hs}
theorem put_no (q : Hm w γ h k A H) (x i p : Int) (hx : isI x) (hp : isI p) (E : putE H x i p ≠ 0) : Calls Tryz.prog 71 #[pt h, .int .i64 x, .int .i64 i, .int .i64 p] w fun e w' => e = .returned (.int .i64 (putE H x i p)) ∧ Below w.heap.size w w' := by
  have fl := fld2
  have C := isc_any q x hx
  have HD := fun (W : World) (b : Below w.heap.size w W) => head_any (q.later b) x
  have O := fun W => one_any W i (Wo.unP (Bp.Ar.readW H.xs x))
  have M := fun (W : World) (b : Below w.heap.size w W) => may_any (q.later b) p hp
  unfold putE at *
  unfold Hs.pn at *
  unfold hdV at HD
  generalize Wo.unK (Bp.Ar.readW H.xs x) = x1 at *
  generalize Wo.unI (Bp.Ar.readW H.xs x) = x2 at *
  generalize Wo.unP (Bp.Ar.readW H.xs x) = x3 at *
  generalize Wo.unN (Bp.Ar.readW H.xs x) = x4 at *
  cases hc : isC H x with
  | false =>
    rw [hc] at C
    clear q hc E
    go_enter Tryz.func71, Tryz.ntmps71
    go_wp2_with (go_at_call 66; refine C.mono ?_; rintro e w1 ⟨rfl, B1⟩)
    go_ret
    exact ⟨rfl, B1⟩
  | true =>
    rw [hc] at C E
    cases ho : oneB i x3 with
    | false =>
      rw [ho] at O
      clear q hc E ho
      go_enter Tryz.func71, Tryz.ntmps71
      go_wp2_with (first
        | (go_at_call 66; refine C.mono ?_; rintro e w1 ⟨rfl, B1⟩; have HD1 := HD _ B1; have HB1 := Hid.mk B1)
        | (go_at_call 50; refine HD1.mono ?_; rintro e w2 ⟨rfl, B2⟩; have HB2 := Hid.mk (HB1.out.trans (B2.mono HB1.out.size)))
        | (go_at_call 51; refine (O _).mono ?_; rintro e w3 ⟨rfl, hw⟩; rw [hw]; clear hw))
      go_ret
      exact ⟨rfl, HB2.out⟩
    | true =>
      rw [ho] at O E
      cases hm : mayP H p with
      | true => simp [hm] at E
      | false =>
        rw [hm] at M
        clear q hc E ho hm
        go_enter Tryz.func71, Tryz.ntmps71
        go_wp2_with (first
          | (go_at_call 66; refine C.mono ?_; rintro e w1 ⟨rfl, B1⟩; have HD1 := HD _ B1; have HB1 := Hid.mk B1)
          | (go_at_call 50; refine HD1.mono ?_; rintro e w2 ⟨rfl, B2⟩; have HB2 := Hid.mk (HB1.out.trans (B2.mono HB1.out.size)); have M2 := M _ HB2.out)
          | (go_at_call 51; refine (O _).mono ?_; rintro e w3 ⟨rfl, hw⟩; rw [hw]; clear hw)
          | (go_at_call 118; refine M2.mono ?_; rintro e w4 ⟨rfl, B4⟩))
        go_ret
        exact ⟨rfl, HB2.out.trans (B4.mono HB2.out.size)⟩
theorem put_yes (q : Hm w γ h k A H) (x i p : Int) (hx : isI x) (hp : isI p) (E : putE H x i p = 0) : Calls Tryz.prog 71 #[pt h, .int .i64 x, .int .i64 i, .int .i64 p] w fun e w' => e = .returned (.int .i64 0) ∧ Hm w' γ h k A (H.wr (x + 1 + i) p) ∧ Fr tar w w' γ γ := by
  have fl := fld2
  have C := isc_any q x hx
  have HD := fun (W : World) (b : Below w.heap.size w W) => head_any (q.later b) x
  have O := fun W => one_any W i (Wo.unP (Bp.Ar.readW H.xs x))
  have M := fun (W : World) (b : Below w.heap.size w W) => may_any (q.later b) p hp
  have xi := unP_in (Bp.Ar.readW H.xs x)
  unfold putE Hs.pn at E
  unfold hdV at HD
  generalize Wo.unK (Bp.Ar.readW H.xs x) = x1 at *
  generalize Wo.unI (Bp.Ar.readW H.xs x) = x2 at *
  generalize Wo.unP (Bp.Ar.readW H.xs x) = x3 at *
  generalize Wo.unN (Bp.Ar.readW H.xs x) = x4 at *
  have hc : isC H x = true := by cases e : isC H x <;> simp_all
  have ho : oneB i x3 = true := by cases e : oneB i x3 <;> simp_all
  have hm : mayP H p = true := by cases e : mayP H p <;> simp_all
  rw [hc] at C
  rw [ho] at O
  rw [hm] at M
  have io := oneB_yes.1 ho
  have xin := isC_in q hc
  have ST := fun (W : World) (b : Below w.heap.size w W) => setptr_any (q.later b) x i p (by omega) (by omega) (may_in q hm)
  clear q hc E ho hm
  go_enter Tryz.func71, Tryz.ntmps71
  go_wp2_with (first
    | (go_at_call 66; refine C.mono ?_; rintro e w1 ⟨rfl, B1⟩; have HD1 := HD _ B1; have HB1 := Hid.mk B1)
    | (go_at_call 50; refine HD1.mono ?_; rintro e w2 ⟨rfl, B2⟩; have HB2 := Hid.mk (HB1.out.trans (B2.mono HB1.out.size)); have M2 := M _ HB2.out)
    | (go_at_call 51; refine (O _).mono ?_; rintro e w3 ⟨rfl, hw⟩; rw [hw]; clear hw)
    | (go_at_call 118; refine M2.mono ?_; rintro e w4 ⟨rfl, B4⟩; have HB4 := Hid.mk (HB2.out.trans (B4.mono HB2.out.size)); have S4 := ST _ HB4.out; clear ST B4)
    | (go_at_call 63; refine S4.mono ?_; rintro e w5 ⟨rfl, Q5, F5⟩))
  go_ret
  exact ⟨rfl, Q5, (Fr.later _ _ HB4.out).trans F5⟩

/-! ### The barrier -/
def genN (H : Hs) (x : Int) : Nat := ((H.wh x).getD (0, 0)).1
def youngB (H : Hs) (p x : Int) : Bool := decide (p ≠ 0) && decide (genN H p < genN H x)
theorem below_drewN {m : Nat} {w W : World} (B : Below m w W) (n : Nat) : Below m w (W.drewN n) := ⟨B.os, B.tape, B.output, B.size, B.block⟩
theorem WM.look1 {w : World} {m n : Nat} {f : Int → Option (Nat × Nat)} (h : WM w m n f) {x : Int} (hx : isI x) :
    (Instr.lookup 92 (.map (some m)) (.int .i64 x) false).run Tryz.prog w = .ok (plc ((f x).getD (0, 0))) w := by
  obtain ⟨g, h, q⟩ := h
  rw [h.look Bp.lawI Tryz.underlying92 (zero105 w) (Bp.keyI hx), q x]
  cases f x <;> rfl
theorem young_any (q : Hm w γ h k A H) (p x : Int) (hp : isI p) (hx : isI x) : Calls Tryz.prog 126 #[pt h, .int .i64 p, .int .i64 x] w fun e w' => e = .returned (.bool (youngB H p x)) ∧ Below w.heap.size w w' := by
  have fl := fldg
  have c8 := q.cw
  have r1 := fun nn : Nat => (q.wh.of_block ((below_drewN (Below.refl w.heap.size w) nn).block _ q.wh.lt)).look1 hp
  have r2 := fun nn : Nat => (q.wh.of_block ((below_drewN (Below.refl w.heap.size w) nn).block _ q.wh.lt)).look1 hx
  unfold youngB genN
  generalize ((H.wh p).getD (0, 0)) = y1 at *
  generalize ((H.wh x).getD (0, 0)) = y2 at *
  have HB := Hid.mk (fun n => below_drewN (Below.refl w.heap.size w) n)
  clear q
  by_cases h0 : p = 0
  · subst h0
    rw [show (decide ((0 : Int) ≠ 0) && decide (y1.1 < y2.1)) = false by simp]
    go_enter Tryz.func126, Tryz.ntmps126
    go_wp2
    go_quiet (fail)
    go_wp2
    go_ret
    exact ⟨rfl, by first | exact HB.out _ | go_grown⟩
  · have b0 : (p != 0) = true := by simpa using h0
    rw [show (decide (p ≠ 0) && decide (y1.1 < y2.1)) = decide (y1.1 < y2.1) by simp [h0]]
    go_enter Tryz.func126, Tryz.ntmps126
    go_wp2
    go_quiet (fail)
    go_wp2
    go_ret
    exact ⟨rfl, by first | exact HB.out _ | go_grown⟩
/-- The lists behind the barrier. -/
def barL (H : Hs) (L : Nat → List Int) (x p : Int) : Nat → List Int := if youngB H p x = true then Rm.putS H.c.g L (genN H x) x else L
theorem bar_any (q : Hm w γ h k A H) {b : Bool} {l : Nat} {L : Nat → List Int} (hl : LiM b w γ l H.c.g L) (x p : Int) (hx : isI x) (hp : isI p) :
    Calls Tryz.prog 72 #[pt h, pt l, .int .i64 x, .int .i64 p] w fun e w' => e = .returned (.tuple #[]) ∧ LiM b w' γ l H.c.g (barL H L x p) ∧ Fr (fun t => t = .lm b) w w' γ γ := by
  have fl := fldg
  have Y := young_any q p x hp hx
  have c8 := q.cw
  have hlt : ∀ W, Below w.heap.size w W → LiM b W γ l H.c.g L := fun W B => hl.fr (Fr.later (fun _ => False) γ B) id id id
  have PU := fun (W : World) (B : Below w.heap.size w W) => put_li (hlt W B) (genN H x) x
  have LK := fun (W : World) (B : Below w.heap.size w W) => (q.later B).wh.look1 hx
  have C8 := fun (W : World) (B : Below w.heap.size w W) => (q.later B).cw
  unfold barL
  cases hy : youngB H p x with
  | true =>
    rw [hy] at Y
    rw [if_pos rfl]
    unfold genN at *
    generalize ((H.wh x).getD (0, 0)) = y2 at *
    clear q hy hlt hl
    go_enter Tryz.func72, Tryz.ntmps72
    go_wp2_with (first
      | (go_at_call 126; refine Y.mono ?_; rintro e w1 ⟨rfl, B1⟩; have P1 := PU _ B1; have K1 := LK _ B1; have c81 := C8 _ B1; have HB1 := Hid.mk B1; clear PU LK C8 B1)
      | (go_at_call 127; refine P1.mono ?_; rintro e w2 ⟨rfl, L2, F2⟩))
    go_end0
    exact ⟨rfl, L2, (Fr.later _ _ HB1.out).trans F2⟩
  | false =>
    rw [hy] at Y
    rw [if_neg (by decide)]
    have HL := Hid.mk hlt
    clear q hy hlt hl PU LK C8
    go_enter Tryz.func72, Tryz.ntmps72
    go_wp2_with (go_at_call 126; refine Y.mono ?_; rintro e w1 ⟨rfl, B1⟩; have HB1 := Hid.mk B1; clear B1)
    go_end0
    exact ⟨rfl, HL.out _ HB1.out, Fr.later _ _ HB1.out⟩
end
section
variable {w : World} {γ : Nat → Tg} {h : Nat} {A : Ad} {H : Hs}
/-- What Set leaves. -/
def Hs.sets (H : Hs) (x i p : Int) : Hs := { H.wr (x + 1 + i) p with L := barL H H.L x p }
theorem set_no (q : Hm w γ h (.pointer none) A H) (x i p : Int) (hx : isI x) (hp : isI p) (E : putE H x i p ≠ 0) : Calls Tryz.prog 24 #[pt h, .int .i64 x, .int .i64 i, .int .i64 p] w fun e w' => e = .returned (.int .i64 (putE H x i p)) ∧ Below w.heap.size w w' := by
  have RS := (sg_rest q).rest
  have P := put_no q x i p hx hp E
  have b0 : (putE H x i p != 0) = true := by simpa using E
  generalize putE H x i p = y at *
  clear q E
  go_enter Tryz.func24, Tryz.ntmps24
  go_wp2_with (first
    | (go_at_call 58; refine RS.mono ?_; rintro e w1 ⟨rfl, hw⟩; rw [hw]; clear hw RS)
    | (go_at_call 71; refine P.mono ?_; rintro e w1 ⟨rfl, B1⟩))
  go_ret
  exact ⟨rfl, B1⟩
theorem tlm_hTn {b : Bool} {t : Tg} (h : t = .lm b) : hTn t := by cases h; rintro (e | ⟨n, e⟩) <;> cases e
theorem set_yes (q : Hm w γ h (.pointer none) A H) (x i p : Int) (hx : isI x) (hp : isI p) (E : putE H x i p = 0) : Calls Tryz.prog 24 #[pt h, .int .i64 x, .int .i64 i, .int .i64 p] w fun e w' => e = .returned (.int .i64 0) ∧ Hm w' γ h (.pointer none) A (H.sets x i p) ∧ Fr hTn w w' γ γ := by
  have RS := (sg_rest q).rest
  have P := put_yes q x i p hx hp E
  have BA := fun (W : World) (Q : Hm W γ h (.pointer none) A (H.wr (x + 1 + i) p)) => bar_any Q Q.li x p hx hp
  have CL := fun (W : World) (Q : Hm W γ h (.pointer none) A (H.wr (x + 1 + i) p)) => Q.cl
  have e1 : barL (H.wr (x + 1 + i) p) (H.wr (x + 1 + i) p).L x p = barL H H.L x p := rfl
  simp only [e1] at BA
  clear q E
  go_enter Tryz.func24, Tryz.ntmps24
  go_wp2_with (first
    | (go_at_call 58; refine RS.mono ?_; rintro e w1 ⟨rfl, hw⟩; rw [hw]; clear hw RS)
    | (go_at_call 71; refine P.mono ?_; rintro e w1 ⟨rfl, Q1, F1⟩; have BA1 := BA _ Q1; have c9 := CL _ Q1; have HQ1 := Hid.mk Q1; have HF1 := Hid.mk F1; clear BA CL Q1 F1)
    | (go_at_call 72; refine BA1.mono ?_; rintro e w2 ⟨rfl, L2, F2⟩))
  go_ret
  exact ⟨rfl, HQ1.out.lists L2 (F2.mono (fun t e => .inl e)), (HF1.out.mono (fun t e => tar_hTn e)).trans (F2.mono (fun t e => tlm_hTn e))⟩
theorem old_any (q : Hm w γ h (.pointer none) A H) (g : Int) : Calls Tryz.prog 14 #[pt h, .int .i64 g] w fun e w' => ∃ v, e = .returned v ∧ w'.ownsRow w.heap.size 3 1 v (Rm.allS H.c.g H.L g).length (Rm.ints (Rm.allS H.c.g H.L g)) ∧ (v = .slice none 0 0 ↔ Rm.allS H.c.g H.L g = []) ∧ Below w.heap.size w w' := by
  have G := gone_live q
  have AL := all_li q.li g
  have c9 := q.cl
  clear q
  go_enter Tryz.func14, Tryz.ntmps14
  go_wp2_with (first
    | (go_at_call 48; refine G.mono ?_; rintro e w1 ⟨rfl, hw⟩; rw [hw]; clear hw)
    | (go_at_call 53; refine AL.mono ?_; rintro e w1 ⟨v, rfl, R, N, B⟩))
  go_ret
  exact ⟨v, rfl, R, N, B⟩
end
end Go.Proofs.YtbdoekffadmejaaGreatDoor
