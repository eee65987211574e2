/- Pop of both stacks; Map without a function. -/
import Derived.Test.YtglimbpnekephaaDoorDsg
import Derived.Test.YtglimbpnekephaaDoorStl
namespace Go.Proofs.YtglimbpnekephaaDoor
open Go.RowKit
set_option linter.unusedVariables false
set_option linter.unusedSimpArgs false

theorem pop0 {w : World} {p a b F N : Nat} {ws : List Int} (h : Ss w p a b ws F N 0 []) :
    Calls Tryd.prog 19 #[.pointer (some ⟨p, 0, none⟩)] w fun e w' => e = .returned (.tuple #[.agg #[.int .i64 0, .int .i64 0, .int .i64 0, .slice none 0 0], .int .i64 4]) ∧ Ss w' p a b ws F N 0 [] ∧ Kp p b w w' := by
  refine (pop_go h (Nat.zero_le _)).mono ?_
  rintro e w' ⟨⟨_, he, hs⟩ | ⟨f, r, o, cp, hr, _⟩, K⟩
  · exact ⟨he, hs, K⟩
  · cases hr
theorem pop1 {w : World} {p a b F N : Nat} {ws : List Int} {f : Fr} {r : List Fr} (h : Ss w p a b ws F N 0 (f :: r)) :
    Calls Tryd.prog 19 #[.pointer (some ⟨p, 0, none⟩)] w fun e w' => ∃ o cp, e = .returned (.tuple #[fv f o cp, .int .i64 0]) ∧ PS w' o cp f.ps ∧ (∀ ad, o = some ad → w.heap.size ≤ ad.block) ∧ Ss w' p a b ws F N 0 r ∧ Kp p b w w' := by
  refine (pop_go h (Nat.zero_le _)).mono ?_
  rintro e w' ⟨⟨hr, _⟩ | ⟨f', r', o, cp, hr, he, P, ho, hs⟩, K⟩
  · cases hr
  · cases hr
    rw [Nat.zero_min] at hs
    exact ⟨o, cp, he, P, ho, hs, K⟩
theorem ps_grown {w w' : World} {o : Option Addr} {cap d : Nat} {ps : List Int} (P : PS w o cap ps) (G : w.grownBy w' (some d)) (hne : ∀ ad, o = some ad → ad.block ≠ d) : PS w' o cap ps :=
  ⟨P.cap, P.len, fun h0 => by
    obtain ⟨g', off, rfl, hx⟩ := P.num h0
    refine ⟨g', off, rfl, fun i hi => ?_⟩
    have c := hx i hi
    have lt := World.block_lt_of_cell? _ _ c
    rw [World.cell?_of_block (w := w) (a := ⟨g', off + i, none⟩) (G.block g' lt (by simpa using hne _ rfl))]
    exact c⟩
theorem Ss.gd {w w' : World} {p a b F N k d base : Nat} {ws : List Int} {rs : List Fr} {n : Int} {v : Value} {l : List Fp} (S : Ss w p a b ws F N k rs) (h : Ds w d base n v l) (G : w.grownBy w' (some d)) : Ss w' p a b ws F N k rs := by
  obtain ⟨pl, al, bl⟩ := S.lt
  exact ⟨S.stk.same (G.block p pl (by simpa using ne_kind S.stk.box h.box (by decide))) (G.block a al (by simpa using ne_kind S.stk.ar.box h.box (by decide))) (G.block b bl (by simpa using ne_kind S.stk.ar.words h.box (by decide))), S.ok, S.eq⟩
theorem below_by {m d : Nat} {w u v : World} (B : Below m w u) (G : u.grownBy v (some d)) (hm : m ≤ u.heap.size) (hd : m ≤ d) : Below m w v :=
  ⟨G.os.trans B.os, G.tape.trans B.tape, G.output.trans B.output, Nat.le_trans B.size G.size, fun k hk => (G.block k (by omega) (by simp; omega)).trans (B.block k hk)⟩
theorem ps_nil (w : World) : PS w none 0 [] := ⟨Nat.le_refl _, Nat.zero_le _, fun h => absurd h (by simp)⟩
theorem map_nilf (w : World) (p : Nat) : Calls Tryd.prog 24 #[.pointer (some ⟨p, 0, none⟩), .nilFunc] w fun e w' => (∃ u, e = .returned u) ∧ Below w.heap.size w w' := by
  have he : ∀ w : World, (binOp .eql 59 .nilFunc .nilFunc).run Tryd.prog w = .ok (.bool true) w := fun _ => rfl
  go_enter_defers Tryd.func24, Tryd.ntmps24
  go_wp2
  exact ⟨_, results_none rfl _ _ _, ⟨_, rfl⟩, by go_grown⟩
theorem rpop1 {w : World} {d base : Nat} {n : Int} {v : Value} {l : List Fp} {g : Fr} {xo : Option Addr} {xc : Nat} (h : Ds w d base n v (l ++ [⟨g, xo, xc⟩])) (hl : l.length ≤ 65536) (hd : d < base) :
    Calls Tryd.prog 30 #[.pointer (some ⟨d, 0, none⟩)] w fun e w' => e = .returned (.tuple #[fv g xo xc, .int .i64 0]) ∧ (∃ v', Ds w' d base n v' l) ∧ w.grownBy w' (some d) ∧ PS w' xo xc g.ps :=
  (rpop_go h hl hd).mono fun e w' ⟨he, hD, G⟩ => ⟨he, hD, G, ps_grown (h.q ⟨g, xo, xc⟩ (by simp)).s G (fun ad e => by obtain ⟨cs, hc⟩ := (h.q ⟨g, xo, xc⟩ (by simp)).t ad e; exact ne_kind hc h.box (by decide))⟩
theorem bx36 {w : World} {y : Nat} {c0 c1 c2 c3 : Value} (h : w.heap[y]? = some (.cells #[c0, c1, c2, c3] 36 (0, 0))) (ob : Obj) : (w.alloc ob).cell? ⟨y, 0, none⟩ = some c0 ∧ (w.alloc ob).cell? ⟨y, 1, none⟩ = some c1 ∧ (w.alloc ob).cell? ⟨y, 2, none⟩ = some c2 ∧ (w.alloc ob).cell? ⟨y, 3, none⟩ = some c3 := by
  refine ⟨?_, ?_, ?_, ?_⟩ <;> (refine Lib.cell?_alloc_some _ ?_; rw [Joins.cell_of_block h]; rfl)
set_option maxRecDepth 100000 in
set_option maxHeartbeats 4000000 in
theorem do_pop0 {w0 w : World} {p a b F N d base : Nat} {ws : List Int} {v : Value} (h : Bo w0 w p a b F N d base ws [] v []) (H : Wh w0 p a b d base) (n : Int) (f : Fr) (o : Option Addr) (cap : Nat) :
    Calls Tryd.prog 11 #[.pointer (some ⟨p, 0, none⟩), .pointer (some ⟨d, 0, none⟩), av 2 n f o cap] w fun e w' => e = .returned (.bool true) ∧ Fin w0 w' p a b F N d base := by
  have HWH := Hid.mk H
  have B0 : Below w.heap.size w (w.alloc (.cells #[.int .i64 2, .int .i64 n, .int .i64 f.k, .int .i64 f.a, .int .i64 f.b, .slice o f.ps.length cap] 38)) := (Below.refl _ w).alloc (Nat.le_refl _) _
  have h0 := h.later B0
  have HH := Hid.mk h0
  have P19 := pop0 h0.s
  clear h h0 H B0
  go_enter Tryd.func11, Tryd.ntmps11
  go_wp2_with (first
    | (go_at_call 19; refine P19.mono ?_; clear P19; rintro e w1 ⟨rfl, S1, K1⟩; have HH1 : Hid (Bo w0 w1 p a b F N d base ws [] v []) := ⟨⟨S1, HH.out.D.kp HH.out.s K1 HWH.out.p2 HWH.out.b2, rfl, fun x hx => (by cases hx), Nat.le_trans HH.out.bw K1.size, K1.below HH.out.bel HH.out.bel.size HWH.out.p1 HWH.out.b1⟩⟩; clear S1 K1)
    | (go_at_call 30; refine (rpop_none (HH1.out.D.later (by go_grown))).mono ?_; rintro e w2 ⟨rfl, B2⟩; have z7 : w2.heap[w1.heap.size]? = some (.cells #[.int .i64 0, .int .i64 0, .int .i64 0, .slice none 0 0] 36 (0, 0)) := (B2.block _ (by simp)).trans (heap_alloc_new _ _); obtain ⟨r0, r1, r2, r3⟩ := bx36 z7 (Obj.cells #[.int .i64 0, .int .i64 0, .int .i64 0, .slice none 0 0] 36); have HB2 : Hid (Below w1.heap.size w1 w2) := ⟨belowOn (by go_grown) B2⟩; clear B2 z7)
    | (go_at_call 20; refine (same_any ⟨0, 0, 0, []⟩ none none 0 0 _ (ps_nil _) (ps_nil _)).mono ?_; rintro e w3 ⟨rfl, B3⟩; have HB3 := Hid.mk B3; clear B3))
  all_goals go_ret
  all_goals exact ⟨rfl, _, _, _, _, (HH1.out.later HB2.out).later (belowOn (by go_grown) HB3.out)⟩
set_option maxRecDepth 100000 in
set_option maxHeartbeats 4000000 in
theorem do_pop1 {w0 w : World} {p a b F N d base : Nat} {ws : List Int} {rs : List Fr} {v : Value} {l : List Fp} {x : Fp} (h : Bo w0 w p a b F N d base ws (x.f :: rs) v (l ++ [x])) (H : Wh w0 p a b d base) (n : Int) (f : Fr) (o : Option Addr) (cap : Nat) :
    Calls Tryd.prog 11 #[.pointer (some ⟨p, 0, none⟩), .pointer (some ⟨d, 0, none⟩), av 2 n f o cap] w fun e w' => e = .returned (.bool true) ∧ Fin w0 w' p a b F N d base := by
  have HWH := Hid.mk H
  have hll := h.le.2.2.2.1
  have HLL : Hid (l.length ≤ 65536) := ⟨by simp at hll; omega⟩
  have dl0 := h.D.box.lt
  have B0 : Below w.heap.size w (w.alloc (.cells #[.int .i64 2, .int .i64 n, .int .i64 f.k, .int .i64 f.a, .int .i64 f.b, .slice o f.ps.length cap] 38)) := (Below.refl _ w).alloc (Nat.le_refl _) _
  have h0 := h.later B0
  have HH := Hid.mk h0
  have P19 := pop1 h0.s
  have HE : Hid (l.map Fp.f = rs.reverse) := ⟨by have := h.e; simp at this; exact this⟩
  obtain ⟨g, xo, xc⟩ := x
  simp only at P19
  have HDD : Hid (d < (w.alloc (.cells #[.int .i64 2, .int .i64 n, .int .i64 f.k, .int .i64 f.a, .int .i64 f.b, .slice o f.ps.length cap] 38)).heap.size) := ⟨by simp; omega⟩
  clear h h0 H B0 hll dl0
  go_enter Tryd.func11, Tryd.ntmps11
  go_wp2_with (first
    | (go_at_call 19; refine P19.mono ?_; clear P19; rintro e w1 ⟨o1, c1, rfl, P1, O1, S1, K1⟩; have HD1 := Hid.mk (HH.out.D.kp HH.out.s K1 HWH.out.p2 HWH.out.b2); have HB1 := Hid.mk (K1.below HH.out.bel HH.out.bel.size HWH.out.p1 HWH.out.b1); have HW1 := Hid.mk (Nat.le_trans HH.out.bw K1.size); have HS1 := Hid.mk S1; have HP1 := Hid.mk P1; have HO1 : Hid (∀ ad, o1 = some ad → ad.block ≠ d) := ⟨fun ad e => by have := O1 ad e; have := HDD.out; omega⟩; clear S1 K1 P1 O1)
    | (go_at_call 30; refine (rpop1 (HD1.out.later (by go_grown)) HLL.out HWH.out.d2).mono ?_; rintro e w2 ⟨rfl, ⟨v2, D2⟩, G2, PX2⟩; have HPX := Hid.mk PX2; have HD2 := Hid.mk D2; have HG2 := Hid.mk G2; have HWd : Hid (Below w1.heap.size w1 (w1.alloc (Obj.cells #[.int .i64 g.k, .int .i64 g.a, .int .i64 g.b, .slice o1 g.ps.length c1] 36))) := ⟨by go_grown⟩; have z7 : w2.heap[w1.heap.size]? = some (.cells #[.int .i64 g.k, .int .i64 g.a, .int .i64 g.b, .slice o1 g.ps.length c1] 36 (0, 0)) := (G2.block _ (by simp) (by have := HD1.out.box.lt; simp; omega)).trans (heap_alloc_new _ _); obtain ⟨r0, r1, r2, r3⟩ := bx36 z7 (Obj.cells #[.int .i64 g.k, .int .i64 g.a, .int .i64 g.b, .slice xo g.ps.length xc] 36); clear D2 G2 z7 PX2)
    | (go_at_call 20; refine (same_any g o1 xo c1 xc _ ((ps_grown (HP1.out.later HWd.out) HG2.out HO1.out).later (by go_grown)) (HPX.out.later (by go_grown))).mono ?_; rintro e w3 ⟨rfl, B3⟩; have HB3 := Hid.mk B3; clear B3))
  all_goals go_ret
  all_goals
    have hB2 := below_by (belowOn HB1.out HWd.out) HG2.out (Nat.le_trans HB1.out.size HWd.out.size) HWH.out.d1
    have hS2 := (HS1.out.later HWd.out).gd (HD1.out.later HWd.out) HG2.out
    have hBo : Bo w0 w2 p a b F N d base _ rs v2 l := ⟨hS2, HD2.out, HE.out, fun y hy => HH.out.pr y (List.mem_append_left _ hy), Nat.le_trans HW1.out (Nat.le_trans HWd.out.size HG2.out.size), hB2⟩
    exact ⟨rfl, _, _, _, _, hBo.later (belowOn (by go_grown) HB3.out)⟩
theorem do_pop {w0 w : World} {p a b F N d base : Nat} {ws : List Int} {rs : List Fr} {v : Value} {l : List Fp} (h : Bo w0 w p a b F N d base ws rs v l) (H : Wh w0 p a b d base) (n : Int) (f : Fr) (o : Option Addr) (cap : Nat) :
    Calls Tryd.prog 11 #[.pointer (some ⟨p, 0, none⟩), .pointer (some ⟨d, 0, none⟩), av 2 n f o cap] w fun e w' => e = .returned (.bool true) ∧ Fin w0 w' p a b F N d base := by
  rcases List.eq_nil_or_concat l with rfl | ⟨l', x, rfl⟩
  · have e := h.e
    have : rs = [] := by simpa using e.symm
    subst this
    exact do_pop0 h H n f o cap
  · have e := h.e
    rw [List.concat_eq_append] at h
    cases rs with
    | nil => simp at e
    | cons g r =>
      simp at e
      obtain ⟨_, rfl⟩ := e
      exact do_pop1 h H n f o cap
end Go.Proofs.YtglimbpnekephaaDoor
