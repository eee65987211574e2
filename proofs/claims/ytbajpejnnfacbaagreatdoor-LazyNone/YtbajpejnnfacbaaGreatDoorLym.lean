/- Package lazy: an alternative is chosen. -/
import Derived.Test.YtbajpejnnfacbaaGreatDoorLyj
namespace Go.Proofs.YtbajpejnnfacbaaGreatDoor.Lz
open Go.RowKit
set_option linter.unusedVariables false
set_option linter.unusedSimpArgs false


theorem pRow.none (G : Gm) : pRow G [] nils := ⟨_, _, rfl, Nat.le_refl _, fun z => absurd rfl z⟩
theorem isT_with {w : World} {G : Gm} {i : Nat} : ∀ {t : T} {c : Array Value}, isT w G i t c → ∃ f nm o r it wr, c = thC (isOf t) (numOf t) f nm o r it wr ∧ pRow G (withOf t) r
  | .num _, _, e => ⟨_, _, _, _, _, _, e, pRow.none G⟩
  | .con _ _, _, ⟨_, p, e⟩ => ⟨_, _, _, _, _, _, e, p⟩
  | .fn _ _ _, _, ⟨_, _, _, _, e⟩ => ⟨_, _, _, _, _, _, e, pRow.none G⟩
  | .part _ _, _, ⟨_, _, _, p, e⟩ => ⟨_, _, _, _, _, _, e, p⟩
  | .var _, _, ⟨_, _, e⟩ => ⟨_, _, _, _, _, _, e, pRow.none G⟩
  | .arr _, _, ⟨_, _, _, _, e, _⟩ => ⟨_, _, _, _, _, _, e, pRow.none G⟩
  | .need _ _, _, ⟨_, _, _, _, _, e⟩ => ⟨_, _, _, _, _, _, e, pRow.none G⟩
  | .call _ _, _, ⟨_, _, _, p, e⟩ => ⟨_, _, _, _, _, _, e, p⟩
  | .work, _, e => ⟨_, _, _, _, _, _, e, pRow.none G⟩
  | .failed _, _, e => ⟨_, _, _, _, _, _, e, pRow.none G⟩
  | .same _, _, ⟨_, _, e⟩ => ⟨_, _, _, _, _, _, e, pRow.none G⟩
theorem isI_numOf {ar : List Nat} {th : List T} (ha : ar.length ≤ 1000000000) : ∀ {t : T}, okT ar th t → isI (numOf t)
  | .num _, h => h
  | .con n _, h => isI_nat (by have := h.1; omega)
  | .arr l, h => isI_nat (by have := h.1; omega)
  | .fn _ _ _, _ => isI_nat (k := 0) (by omega)
  | .part _ _, _ => isI_nat (k := 0) (by omega)
  | .var _, _ => isI_nat (k := 0) (by omega)
  | .need _ _, _ => isI_nat (k := 0) (by omega)
  | .call _ _, _ => isI_nat (k := 0) (by omega)
  | .work, _ => isI_nat (k := 0) (by omega)
  | .failed _, _ => isI_nat (k := 0) (by omega)
  | .same _, _ => isI_nat (k := 0) (by omega)
theorem isOf_le (t : T) : isOf t ≤ 10 := by cases t <;> simp [isOf]

section
variable {w w' : World} {G G' : Gm} {rb mb : Nat} {mv : Mv} {s : St} {sh : Int}
set_option maxRecDepth 100000 in
set_option maxHeartbeats 8000000 in
theorem choose_any (h : Run w G rb mb mv s sh) {b t : Nat} (hb : G b = some (.thing t)) {tv : T} (ht : s.th[t]? = some tv) (hi : isI (numOf tv)) {xb nb : Nat} {kid : X} {al : List Ar} {o : List X} {e : Env} (hx : G xb = some (.exp (.cs kid al o))) (hn : G nb = some (.env e)) (he : e.length + 1 ≤ 1000000000) (hw : s.ws.length ≤ 1000000000) :
    Calls Tryz.prog 79 #[ptr rb, ptr b, .agg #[.int .i64 2, nilp, nils, ptr xb, ptr nb, .int .i64 0]] w (Out w G rb mb mv (chooseS s t al o e) sh) := by
  obtain ⟨W, hW⟩ : ∃ W, W = w.alloc (.cells #[.int .i64 2, nilp, nils, ptr xb, ptr nb, .int .i64 0] 160) := ⟨_, rfl⟩
  have KW : Below w.heap.size w W := by rw [hW]; exact Joins.below_alloc1 w _
  have XW : Bx W w.heap.size #[.int .i64 2, nilp, nils, ptr xb, ptr nb, .int .i64 0] 160 := by rw [hW]; exact heap_alloc_new w _
  have RW := h.below KW
  obtain ⟨cx, hcx, kv, m, ov, pk, ⟨mm, rfl, hm⟩, po, ecx⟩ := RW.rep.expB hx
  have XX : Bx W xb (xC 6 0 0 .nilFunc 0 0 nils nils kv (.map (some mm)) ov) 147 := by rw [← ecx]; exact hcx
  obtain ⟨tv', ct, et, hct, qt⟩ := RW.rep.cont b _ hb
  rw [ht] at et
  cases et
  obtain ⟨tf, tn, to, tr, ti, tw, ect, pr⟩ := isT_with qt
  have XB : Bx W b (thC (isOf tv) (numOf tv) tf tn to tr ti tw) 91 := by rw [← ect]; exact hct
  obtain ⟨vn, f, vm, vle, q⟩ := RW.rep.cont mm _ hm
  have hio : isI ((isOf tv : Nat) : Int) := isI_nat (by have := isOf_le tv; omega)
  have qq := q (isOf tv) (numOf tv) hio hi
  have hrun := fun nn : Nat => (vm.of_block ((below_drewN (Below.refl W.heap.size W) nn).block mm vm.lt)).look lawV Tryz.underlying145 (zero96 (W.drewN nn)) (keyV hio hi)
  have x3 := XW.cell 3
  have x4 := XW.cell 4
  have y9 := XX.cell 9
  have y10 := XX.cell 10
  have t0 := XB.cell 0
  have t1 := XB.cell 1
  have t5 := XB.cell 5
  have HH := Hid.mk (And.intro RW (And.intro XW (And.intro XX (And.intro XB (And.intro KW (And.intro hb (And.intro hn (And.intro pr he))))))))
  have HFX : Hid (Fx G G w W) := ⟨Fx.of_below KW⟩
  have NR : Hid (w.heap.size ≠ rb ∧ b ≠ rb ∧ xb ≠ rb) := ⟨⟨fun z => (by have := h.rep.lt h.rt; omega), fun z => (by rw [z, h.rt] at hb; cases hb), fun z => (by rw [z, h.rt] at hx; cases hx)⟩⟩
  have HXO := Hid.mk (And.intro po ht)
  have HT := Hid.mk (thAt_some ht)
  cases ha : armOf al (isOf tv) (numOf tv) with
  | some x =>
    rw [ha] at qq
    obtain ⟨_, ef, ⟨x2, rfl, hx2⟩⟩ := qq
    rw [ef] at hrun
    simp only [Option.getD_some] at hrun
    have HX2 := Hid.mk hx2
    have ec : chooseS s t al o e = { s with md := .ev x (inE e (withOf tv)) } := by unfold chooseS; rw [HT.out]; simp only [ha]
    rw [ec]
    generalize isOf tv = ik at *
    generalize numOf tv = inn at *
    clear h hb ht hx hn KW XW RW hcx pk hm po ecx XX hct qt ect pr XB vm q ef ha ec hx2 hi hio y10
    go_enter Tryz.func79, Tryz.ntmps79
    go_wp2
    rw [← hW]
    clear hW
    go_quiet (fail)
    obtain ⟨w1, hw1⟩ : ∃ x, x = W.drewN nq := ⟨_, rfl⟩
    rw [← hw1]
    have HD : Hid (Below W.heap.size W w1) := ⟨by rw [hw1]; exact below_drewN (Below.refl _ _) _⟩
    clear hw1 hrun x3 x4 y9 t0 t1 t5
    have R1 := HH.out.1.below HD.out
    have z4 := (HH.out.2.1.later HD.out).cell 4
    have z5 := (HH.out.2.2.2.1.later HD.out).cell 5
    have HR9 := Hid.mk R1.drew
    have HFX9 := Hid.mk ((HFX.out.trans (Fx.of_below HD.out)).trans (Fx.drewL _ _))
    have WI := within_more R1.drew.rep HH.out.2.2.2.2.2.2.1 HH.out.2.2.2.2.2.2.2.1 HH.out.2.2.2.2.2.2.2.2
    have zwl : w.heap.size < w1.heap.size := lt_of_block (HH.out.2.1.later HD.out)
    have zbl : b < w1.heap.size := lt_of_block (HH.out.2.2.2.1.later HD.out)
    clear R1
    go_wp2
    go_region_held3 (fun w' => w'.cell? ⟨w.heap.size, 4, none⟩ = some (ptr nb) ∧ w'.cell? ⟨b, 5, none⟩ = some tr) (go_keep) (first
      | (go_at_call 100; refine WI.mono ?_; rintro r w8 ⟨u8, G8, rfl, ⟨b8, rfl, hb8⟩, F8, R8, B8⟩; have s0 : w8.cell? ⟨w.heap.size, 4, none⟩ = some (ptr nb) := (B8.cell zwl).trans z4; have s1 : w8.cell? ⟨b, 5, none⟩ = some tr := (B8.cell zbl).trans z5; have K := evaluates_more (HR9.out.next F8 (fun x k hx => B8.block x (HR9.out.rep.lt hx)) R8) ⟨x2, rfl, F8.le _ _ HX2.out⟩ ⟨b8, rfl, hb8⟩; have HF8 := Hid.mk F8; clear B8 F8 R8)
      | (go_at_call 71; refine K.mono ?_; rintro e w10 ⟨H9, O9⟩; have t0 := (World.cell?_of_block (a := ⟨w.heap.size, 4, none⟩) (O9 _ NR.out.1)).trans s0; have t1 := (World.cell?_of_block (a := ⟨b, 5, none⟩) (O9 _ NR.out.2.1)).trans s1; have HE := Hid.mk (Out.from (HFX9.out.trans HF8.out) H9); obtain ⟨rfl, _⟩ := H9; clear O9))
    all_goals go_wp2
    all_goals go_end0
    all_goals exact HE.out
  | none =>
    rw [ha] at qq
    simp only at qq
    rw [qq] at hrun
    simp only [Option.getD_none] at hrun
    cases o with
    | nil =>
      have ov0 : ov = nilp := po
      subst ov0
      have ec : chooseS s t al [] e = failS s 42 := by unfold chooseS; rw [HT.out]; simp only [ha]
      rw [ec]
      generalize isOf tv = ik at *
      generalize numOf tv = inn at *
      clear h hb ht hx hn KW XW RW hcx pk hm po ecx XX hct qt ect pr XB vm q qq ha ec hi hio
      go_enter Tryz.func79, Tryz.ntmps79
      go_wp2
      rw [← hW]
      clear hW
      go_quiet (fail)
      obtain ⟨w1, hw1⟩ : ∃ x, x = W.drewN nq := ⟨_, rfl⟩
      rw [← hw1]
      have HD : Hid (Below W.heap.size W w1) := ⟨by rw [hw1]; exact below_drewN (Below.refl _ _) _⟩
      clear hw1 hrun x3 x4 y9 t0 t1 t5 y10
      have z3 := (HH.out.2.1.later HD.out).cell 3
      have z10 := (HH.out.2.2.1.later HD.out).cell 10
      have K := fails_any (HH.out.1.below HD.out) 42 hw
      go_wp2_with (go_at_call 75; refine K.mono ?_; intro e w10 H9; have HE := Hid.mk (Out.from (HFX.out.trans (Fx.of_below HD.out)) H9); obtain ⟨rfl, _⟩ := H9)
      go_end0
      exact HE.out
    | cons x ro =>
      obtain ⟨x2, rfl, hx2⟩ := po
      have HX2 := Hid.mk hx2
      have ec : chooseS s t al (x :: ro) e = { s with md := .ev x ([t] :: e) } := by unfold chooseS; rw [HT.out]; simp only [ha]
      rw [ec]
      generalize isOf tv = ik at *
      generalize numOf tv = inn at *
      clear h hb ht hx hn KW XW RW hcx pk hm ecx XX hct qt ect pr XB vm q qq ha ec hi hio hx2
      go_enter Tryz.func79, Tryz.ntmps79
      go_wp2
      rw [← hW]
      clear hW
      go_quiet (fail)
      obtain ⟨w1, hw1⟩ : ∃ x, x = W.drewN nq := ⟨_, rfl⟩
      rw [← hw1]
      have HD : Hid (Below W.heap.size W w1) := ⟨by rw [hw1]; exact below_drewN (Below.refl _ _) _⟩
      clear hw1 hrun x3 x4 y9 t0 t1 t5 y10
      have z3 := (HH.out.2.1.later HD.out).cell 3
      have z4 := (HH.out.2.1.later HD.out).cell 4
      have z10 := (HH.out.2.2.1.later HD.out).cell 10
      obtain ⟨o1, ho1⟩ : ∃ o, Obj.cells #[ptr b] 78 = o := ⟨_, rfl⟩
      have K1 := Joins.below_alloc1 w1 o1
      have R1 := HH.out.1.below HD.out
      have fr : G w1.heap.size = none := R1.rep.free (Nat.le_refl _)
      have R2 := (R1.below K1).drew
      have NB : (w1.alloc o1).drew.heap[w1.heap.size]? = some (.cells #[ptr b] 78 (0, 0)) := by rw [← ho1]; exact heap_alloc_new w1 _
      have F2 : Fx G (Lz.tag G w1.heap.size (.row [t])) w1 (w1.alloc o1).drew := (Fx.of_below K1.drew).more rfl rfl rfl (Nat.le_refl _) (fun _ _ => rfl) (le_tag fr _) (fun i hi q => by rw [tag_ne _ _ (by omega)]; exact q)
      have RP : Rep (w1.alloc o1).drew (Lz.tag G w1.heap.size (.row [t])) s.th s.rows := R2.rep.tag fr ⟨lt_of_block NB, fun j i hj => by
        cases j with
        | zero => cases hj; exact ⟨ptr b, (Joins.cell_of_block NB 0).trans rfl, b, rfl, le_tag fr _ _ _ HH.out.2.2.2.2.2.1⟩
        | succ j => simp at hj⟩ (fun i => by simp) (fun j => by simp)
      have HR9 : Hid (Run (w1.alloc o1).drew (Lz.tag G w1.heap.size (.row [t])) rb mb mv s sh) := ⟨R1.next F2 (fun x k hx => K1.drew.block x (R1.rep.lt hx)) RP⟩
      have HFX9 := Hid.mk ((HFX.out.trans (Fx.of_below HD.out)).trans F2)
      have WI := within_more RP (le_tag fr _ _ _ HH.out.2.2.2.2.2.2.1) (l := [t]) (v := .slice (some ⟨w1.heap.size, 0, none⟩) 1 1) ⟨_, _, rfl, Nat.le_refl _, fun _ => ⟨w1.heap.size, 0, [t], rfl, tag_self _ _ _, fun j hj => by rw [Nat.zero_add]⟩⟩ HH.out.2.2.2.2.2.2.2.2
      have eI : inE e [t] = [t] :: e := by unfold inE; rw [if_neg (by simp)]
      rw [eI] at WI
      have zw1 : w.heap.size < w1.heap.size := lt_of_block (HH.out.2.1.later HD.out)
      have zx1 : xb < w1.heap.size := lt_of_block (HH.out.2.2.1.later HD.out)
      have KB : Hid (Below w1.heap.size w1 (w1.alloc o1).drew) := ⟨K1.drew⟩
      have HLE : Hid (Le G (Lz.tag G w1.heap.size (.row [t]))) := ⟨le_tag fr _⟩
      have BC : Hid (∀ w8, Below (w1.alloc o1).drew.heap.size (w1.alloc o1).drew w8 → Below w1.heap.size w1 w8) := ⟨fun w8 B => K1.drew.trans (Joins.below_le B K1.drew.size)⟩
      clear R1 fr R2 NB F2 RP K1 eI
      subst ho1
      go_wp2
      go_region_held3 (fun w' => w'.cell? ⟨w.heap.size, 3, none⟩ = some (ptr xb) ∧ w'.cell? ⟨w.heap.size, 4, none⟩ = some (ptr nb) ∧ w'.cell? ⟨xb, 10, none⟩ = some (ptr x2)) (go_keep) (first
        | (go_at_call 100; refine WI.mono ?_; rintro r w8 ⟨u8, G8, rfl, ⟨b8, rfl, hb8⟩, F8, R8, B8⟩; have B9 := BC.out _ B8; have s0 : w8.cell? ⟨w.heap.size, 3, none⟩ = some (ptr xb) := (B9.cell zw1).trans z3; have s1 : w8.cell? ⟨w.heap.size, 4, none⟩ = some (ptr nb) := (B9.cell zw1).trans z4; have s2 : w8.cell? ⟨xb, 10, none⟩ = some (ptr x2) := (B9.cell zx1).trans z10; have K := evaluates_more (HR9.out.next F8 (fun x k hx => B8.block x (HR9.out.rep.lt hx)) R8) ⟨x2, rfl, F8.le _ _ (HLE.out _ _ HX2.out)⟩ ⟨b8, rfl, hb8⟩; have HF8 := Hid.mk F8; clear B8 F8 R8 B9)
        | (go_at_call 71; refine K.mono ?_; rintro e w10 ⟨H9, O9⟩; have t0 := (World.cell?_of_block (a := ⟨w.heap.size, 3, none⟩) (O9 _ NR.out.1)).trans s0; have t1 := (World.cell?_of_block (a := ⟨w.heap.size, 4, none⟩) (O9 _ NR.out.1)).trans s1; have t2 := (World.cell?_of_block (a := ⟨xb, 10, none⟩) (O9 _ NR.out.2.2)).trans s2; have HE := Hid.mk (Out.from (HFX9.out.trans HF8.out) H9); obtain ⟨rfl, _⟩ := H9; clear O9))
      all_goals go_wp2
      all_goals go_end0
      all_goals exact HE.out
end

end Go.Proofs.YtbajpejnnfacbaaGreatDoor.Lz
