/- The document's own stack: its Push, whatever the frame is. -/
import Derived.Test.YtglimbpnekephaaDoorDsd
namespace Go.Proofs.YtglimbpnekephaaDoor
open Go.RowKit
set_option linter.unusedVariables false
set_option linter.unusedSimpArgs false

set_option maxHeartbeats 2000000 in
theorem rpush_wrong {w : World} {d : Nat} (f : Fr) (o : Option Addr) (cap : Nat) (P : PS w o cap f.ps) (hr : rightE f ≠ 0) :
    Calls Tryd.prog 29 #[.pointer (some ⟨d, 0, none⟩), fv f o cap] w fun e w' => e = .returned (.int .i64 (rightE f)) ∧ Below w.heap.size w w' := by
  have B0 : Below w.heap.size w (w.alloc (Obj.cells #[.int .i64 f.k, .int .i64 f.a, .int .i64 f.b, .slice o f.ps.length cap] 36)) := by go_grown
  have RA := ref_any f o cap (w.alloc (Obj.cells #[.int .i64 f.k, .int .i64 f.a, .int .i64 f.b, .slice o f.ps.length cap] 36)) (P.later B0)
  have hne : (rightE f != 0) = true := by simpa using hr
  have HB0 := Hid.mk B0
  generalize rightE f = E at *
  unfold fv at *
  generalize f.k = fk at *
  generalize f.a = fa at *
  generalize f.b = fb at *
  generalize f.ps.length = fn at *
  clear B0 hr P
  go_enter Tryd.func29, Tryd.ntmps29
  go_wp2_with (go_at_call 14; refine RA.mono ?_; clear RA; rintro e w1 ⟨rfl, B1⟩)
  go_ret
  exact ⟨rfl, belowOn HB0.out B1⟩
set_option maxHeartbeats 2000000 in
theorem rpush_full {w : World} {d base : Nat} {v : Value} {l : List Fp} {N : Nat} (h : Ds w d base (N : Int) v l) (f : Fr) (o : Option Addr) (cap : Nat) (P : PS w o cap f.ps) (hN : N ≤ 65536) (hu : usedN l ≤ N) (hll : l.length ≤ 65536) (hr : rightE f = 0) (hfit : N < usedN l + (f.ps.length + 1)) :
    Calls Tryd.prog 29 #[.pointer (some ⟨d, 0, none⟩), fv f o cap] w fun e w' => e = .returned (.int .i64 5) ∧ Below w.heap.size w w' := by
  have hfn := (Okf.of hr).n
  have B0 : Below w.heap.size w (w.alloc (Obj.cells #[.int .i64 f.k, .int .i64 f.a, .int .i64 f.b, .slice o f.ps.length cap] 36)) := by go_grown
  have bx : (w.alloc (Obj.cells #[.int .i64 f.k, .int .i64 f.a, .int .i64 f.b, .slice o f.ps.length cap] 36)).heap[w.heap.size]? = some (.cells #[.int .i64 f.k, .int .i64 f.a, .int .i64 f.b, .slice o f.ps.length cap] 36 (0, 0)) := heap_alloc_new _ _
  have RA := ref_any f o cap (w.alloc (Obj.cells #[.int .i64 f.k, .int .i64 f.a, .int .i64 f.b, .slice o f.ps.length cap] 36)) (P.later B0)
  rw [hr] at RA
  have HH := Hid.mk h
  have HB0 := Hid.mk B0
  have HBX := Hid.mk bx
  obtain ⟨b, hbb⟩ : ∃ b, w.heap.size = b := ⟨_, rfl⟩
  unfold fv at *
  generalize f.k = fk at *
  generalize f.a = fa at *
  generalize f.b = fb at *
  generalize f.ps.length = fn at *
  clear h P B0 bx hr
  go_enter Tryd.func29, Tryd.ntmps29
  go_wp2_with (go_at_call 14; refine RA.mono ?_; clear RA; rintro e w1 ⟨rfl, B1⟩)
  have HB1 : Hid (Below w.heap.size w w1) := ⟨belowOn HB0.out B1⟩
  have HD1 := Hid.mk (HH.out.later HB1.out)
  have bx1 : w1.heap[b]? = some (.cells #[.int .i64 fk, .int .i64 fa, .int .i64 fb, .slice o fn cap] 36 (0, 0)) := (B1.block b (by rw [← hbb]; simp)).trans (by rw [← hbb]; exact HBX.out)
  have BD : Below w1.heap.size w1 w1.drew := below_drew w1
  have HD1d := HD1.out.later BD
  have UR := used34_any HD1d.box HD1d.R (by omega) hll
  have c0 : w1.cell? ⟨d, 0, none⟩ = some (.int .i64 (N : Int)) := HD1.out.box.cell 0
  have c3 : w1.cell? ⟨b, 3, none⟩ = some (.slice o fn cap) := by rw [Joins.cell_of_block bx1]; rfl
  obtain ⟨U, hU⟩ : ∃ U, usedN l = U := ⟨_, rfl⟩
  rw [hU] at UR hu hfit
  have gt : (U : Int) + (fn : Int) + 1 > (N : Int) := by omega
  have gt2 : (N : Int) < (U : Int) + (fn : Int) + 1 := by omega
  have ww1 : IntKind.i64.wrap ((U : Int) + (fn : Int)) = (U : Int) + (fn : Int) := by rw [IntKind.wrap_i64]; omega
  have ww2 : IntKind.i64.wrap ((U : Int) + (fn : Int) + 1) = (U : Int) + (fn : Int) + 1 := by rw [IntKind.wrap_i64]; omega
  clear HD1d BD B1 hU
  go_wp2
  go_region_held3 (fun W' => W'.cell? ⟨d, 0, none⟩ = some (.int .i64 (N : Int)) ∧ W'.cell? ⟨b, 3, none⟩ = some (.slice o fn cap)) (go_keep) (first
    | (go_at_call 34; refine UR.mono ?_; rintro e w7 ⟨rfl, hw⟩; rw [hw]; clear hw))
  all_goals go_wp2
  all_goals go_ret
  all_goals exact ⟨rfl, belowOn HB1.out (below_drew w1)⟩
theorem Kq.of {d : Nat} {v : Value} {w w' : World} (B : Below w.heap.size w w') : Kq d v w w' := ⟨B.os, B.tape, B.output, B.size, fun k hk _ _ => B.block k hk⟩
theorem rpush_any {w : World} {d base : Nat} {v : Value} {l : List Fp} {N : Nat} (h : Ds w d base (N : Int) v l) (f : Fr) (o : Option Addr) (cap : Nat) (P : PS w o cap f.ps) (hN : N ≤ 65536) (hu : usedN l ≤ N) (hll : l.length ≤ 65536) (hd : d < base) (hb : base ≤ w.heap.size) :
    Calls Tryd.prog 29 #[.pointer (some ⟨d, 0, none⟩), fv f o cap] w fun e w' => e = .returned (.int .i64 (pushE N (usedN l) f)) ∧ ∃ v' l', Ds w' d base (N : Int) v' l' ∧ (if pushE N (usedN l) f = 0 then ∃ x : Fp, x.f = f ∧ l' = l ++ [x] ∧ (∀ ad, x.o = some ad → w.heap.size ≤ ad.block) else l' = l) ∧ Kq d v w w' := by
  by_cases hr : rightE f = 0
  · by_cases hf : N < usedN l + (f.ps.length + 1)
    · have e : pushE N (usedN l) f = 5 := by simp [pushE, hr, hf]
      rw [e]
      refine (rpush_full h f o cap P hN hu hll hr hf).mono ?_
      rintro e w' ⟨rfl, B⟩
      exact ⟨rfl, v, l, h.later B, by simp, Kq.of B⟩
    · have e : pushE N (usedN l) f = 0 := by simp [pushE, hr, hf]
      rw [e]
      refine (rpush_go h f o cap P hN hu hll hd hb hr (by omega)).mono ?_
      rintro e w' ⟨rfl, v', ga, cp, D, K, G⟩
      exact ⟨rfl, v', _, D, by rw [if_pos rfl]; exact ⟨⟨f, ga, cp⟩, rfl, rfl, G⟩, K⟩
  · have e : pushE N (usedN l) f = rightE f := by simp [pushE, hr]
    rw [e]
    refine (rpush_wrong f o cap P hr).mono ?_
    rintro e w' ⟨rfl, B⟩
    exact ⟨rfl, v, l, h.later B, by rw [if_neg hr], Kq.of B⟩
end Go.Proofs.YtglimbpnekephaaDoor
