/- Package heap: Evacuate. -/
import Derived.Test.YtbdoekffadmejaaGreatDoorHmt
namespace Go.Proofs.YtbdoekffadmejaaGreatDoor
open Go.RowKit
set_option linter.unusedVariables false
set_option linter.unusedSimpArgs false
set_option maxRecDepth 100000

section
variable {w w' : World} {γ γ' : Nat → Tg} {h : Nat} {A : Ad} {H : Hs} {B : Wa} {K : Wk}
set_option maxHeartbeats 2000000 in
theorem evac_yes (q : Wm w γ h A H B K) (x : Int) (hx : 1 ≤ x ∧ x ≤ 300000) (l : Nat) (hl : l < H.c.g) (hc : isC H x = false) (g0 s0 : Nat) (hav : K.av x = some (g0, s0)) (hm : mvd H K x = none) {y1 y2 : Nat} (hy : nxt H.c (g0, s0) l = (y1, y2))
    (hlen : (H.sp y1 y2).l.length ≤ 1000) (hE : H.layE y1 y2 (szW H.xs x) = 0) (hn0 : A.wn ≤ 1000000) (hfr : K.fresh.length ≤ 1000000) :
    Calls Tryz.prog 22 #[pt h, .int .i64 x, .int .i64 l] w fun e w' => e = .returned (.tuple #[.int .i64 (H.layA y1 y2 (szW H.xs x)), .int .i64 0]) ∧ ∃ γ', Fr hTn w w' γ γ' ∧ ∃ v, Wm w' γ' h A.more (H.went x y1 y2) { B with fv := v } { K with fresh := K.fresh ++ [H.layA y1 y2 (szW H.xs x)] } := by
  have hI : isI x := ⟨by omega, by omega⟩
  have dm := q.km.dom x g0 s0 hav
  have yi := nxt_in q.hm.ok (x := (g0, s0)) ⟨dm.2.2.1, dm.2.2.2⟩ hl
  rw [hy] at yi
  have G := (sg_work q.hm).work
  have c7 := q.hm.co
  have og := q.hm.ok.g
  obtain ⟨ob, cap, e1, _, _⟩ := row_form q.hm.row.out (by omega)
  rw [e1] at c7
  have O := fun W => one_any W l H.c.g
  rw [show oneB (l : Int) H.c.g = true from oneB_yes.2 ⟨by omega, by omega⟩] at O
  have C := isc_any q.hm x hI
  rw [hc] at C
  have AS := fun (W : World) (b : Below w.heap.size w W) => aside_any (q.later b) x hI
  rw [hav] at AS
  have MW := fun (W : World) (b : Below w.heap.size w W) => moved_work (q.later b) x hI
  rw [hm] at MW
  have CK := fun (W : World) (b : Below w.heap.size w W) => (q.later b).hm.ck
  have C1 : ∀ (W : World), Below w.heap.size w W → W.cell? ⟨B.kb, 1, none⟩ = some (.map (some B.am)) := fun (W : World) (b : Below w.heap.size w W) => hd4 (q.later b).km.box 1
  have LK := fun (W : World) (b : Below w.heap.size w W) => (q.later b).km.av.look1 hI
  rw [hav] at LK
  have NX := fun (W : World) (b : Below w.heap.size w W) => next_any (q.later b).hm g0 s0 ⟨dm.2.2.1, dm.2.2.2⟩ l hl
  rw [hy] at NX
  have MV := fun (W : World) (b : Below w.heap.size w W) => move_yes (q.later b) x hx yi.1 yi.2 hlen hE hn0 hfr
  have b0 : (x == 0) = false := by simp; omega
  have n0 : x ≠ 0 := by omega
  generalize H.went x y1 y2 = H2 at *
  generalize H.layA y1 y2 (szW H.xs x) = t at *
  obtain ⟨m, hm'⟩ : ∃ m, H.c.g = m := ⟨_, rfl⟩
  rw [hm'] at c7 O
  simp only [Option.isSome_some, Option.isSome_none, Option.getD_none, Option.getD_some] at AS MW LK
  clear q hm hc hav hE hy dm yi e1 og hlen
  go_enter Tryz.func22, Tryz.ntmps22
  go_wp2_with (first
    | (go_at_call 65; refine G.mono ?_; rintro e w1 ⟨rfl, hw⟩; rw [hw]; clear hw G)
    | (go_at_call 51; refine (O _).mono ?_; rintro e w1 ⟨rfl, hw⟩; rw [hw]; clear hw O)
    | (go_at_call 66; refine C.mono ?_; rintro e w1 ⟨rfl, B1⟩; have HB1 := Hid.mk B1; have A1 := AS _ B1; clear B1 C AS)
    | (go_at_call 67; refine A1.mono ?_; rintro e w2 ⟨rfl, B2⟩; have HB2 := Hid.mk (HB1.out.trans (B2.mono HB1.out.size)); have M1 := MW _ HB2.out; clear B2 MW A1)
    | (go_at_call 68; refine M1.mono ?_; rintro e w3 ⟨rfl, B3⟩; have HB3 := Hid.mk (HB2.out.trans (B3.mono HB2.out.size)); have ck := CK _ HB3.out; have c1 := C1 _ HB3.out; have lk := LK _ HB3.out; have N1 := NX _ HB3.out; clear B3 CK C1 LK NX M1)
    | (go_at_call 70; refine N1.mono ?_; rintro e w4 ⟨rfl, B4⟩; have HB4 := Hid.mk (HB3.out.trans (B4.mono HB3.out.size)); have V1 := MV _ HB4.out; clear B4 MV N1)
    | (go_at_call 69; refine V1.mono ?_; rintro e w5 ⟨rfl, γ1, F1, v, Q1⟩; have HF := Hid.mk ((Fr.later hTn γ HB4.out).trans F1); have HQ := Hid.mk Q1; clear F1 Q1 V1))
  go_ret2
  exact ⟨rfl, γ1, HF.out, v, HQ.out⟩
end
end Go.Proofs.YtbdoekffadmejaaGreatDoor
