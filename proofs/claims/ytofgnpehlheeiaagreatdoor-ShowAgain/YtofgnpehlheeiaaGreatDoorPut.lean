/- Package show's printer: what puts one token; the first fault. -/
import Derived.Test.YtofgnpehlheeiaaGreatDoorPrt
import Derived.Deep.RegionLaw
namespace Go.Proofs.YtofgnpehlheeiaaGreatDoor
open Go.RowKit
set_option linter.unusedVariables false
set_option linter.unusedSimpArgs false

abbrev ptr (b : Nat) : Value := .pointer (some ⟨b, 0, none⟩)
abbrev done : Ending := .returned (.tuple #[])
theorem info71 : (Tryz.prog.info? 58).map (fun i => (i.zero, i.size, i.bytes)) = some (some (.agg #[.int .i64 0, .string ⟨#[]⟩, .int .i64 0, .int .i64 0]), 4, 40) := by kernel_rfl
theorem own_drew {w : World} {base size n : Nat} {e : TypeId} {v : Value} {xs : List Value} (h : w.ownsRow base e size v n xs) : w.drew.ownsRow base e size v n xs := h.kept (grown_drew w) (by cases v.ownBlock <;> simp)
theorem own_alloc {w : World} {base size n : Nat} {e : TypeId} {v : Value} {xs : List Value} (h : w.ownsRow base e size v n xs) (o : Obj) : (w.alloc o).ownsRow base e size v n xs := h.alloc o

theorem news1 (w : World) (o : Obj) (cs : Array Value) (t : TypeId) : ∀ j x, cs.toList[j]? = some x → ((w.alloc o).alloc (.cells cs t)).cell? ((⟨w.heap.size + 1, 0, none⟩ : Addr).add j) = some x := by
  have h := heap_alloc_new (w.alloc o) (.cells cs t)
  rw [show (w.alloc o).heap.size = w.heap.size + 1 by simp] at h
  exact World.news_of_block h
theorem bal {wz w' : World} (h : Below wz.heap.size wz w') (o : Obj) : Below wz.heap.size wz (w'.alloc o) := h.alloc h.size o
theorem put_mid {w W W1 : World} {b : Nat} {ts : List ATok} {es : List Nat} {e : Int} {v : Value} {j : Nat} {t : TypeId} {size n : Nat} {xs : List Value} (P : Pr w b ts es e) (hB : Below w.heap.size w W) (hc : w.cell? ⟨b, j, none⟩ = some v)
    (hO : W.ownsRow (b + 1) t size v n xs) (hg : W.grownBy W1 v.ownBlock) : W1.cell? ⟨b, j, none⟩ = some v ∧ W1.frozen? ⟨b, j, none⟩ = false := by
  have nb : some b ≠ v.ownBlock := fun z => by have := (own_type hO z.symm).1; omega
  have PW := P.below hB
  exact ⟨hg.cell ((hB.cell P.lt).trans hc) nb, (World.frozen?_of_block (hg.block b PW.lt nb)).trans (PW.z j)⟩
/-- a row of tokens has one more: the printer behind it -/
theorem put_end {w W W1 : World} {b : Nat} {ts : List ATok} {es : List Nat} {e : Int} {v : Value} {t : ATok} {q cap : Nat} (P : Pr w b ts es e) (ht : Fit t) (hc : w.cell? ⟨b, 0, none⟩ = some v) (hB : Below w.heap.size w W)
    (hO : W.ownsRow (b + 1) 58 4 v ts.length (cellsA ts)) (hg : W.grownBy W1 v.ownBlock) (ho : W1.ownsRow (b + 1) 58 4 (.slice (some ⟨q, 0, none⟩) (ts.length + 1) cap) (ts.length + 1) (cellsA ts ++ tokA t)) :
    Pr (W1.setCell ⟨b, 0, none⟩ (.slice (some ⟨q, 0, none⟩) (ts.length + 1) cap)) b (ts ++ [t]) es e ∧ Fp b w (W1.setCell ⟨b, 0, none⟩ (.slice (some ⟨q, 0, none⟩) (ts.length + 1) cap)) := by
  have PW := P.below hB
  have F1 : Fp b w W1 := ((Fp.refl b w).below hB).row hO (.inl rfl) hg
  have nb : some b ≠ v.ownBlock := fun z => by have := (own_type hO z.symm).1; omega
  obtain ⟨v', a0, o0⟩ := PW.c0
  obtain ⟨u, a1, o1⟩ := PW.c1
  have a0' := hg.cell a0 nb
  refine ⟨⟨⟨_, set_same a0', ?_⟩, ⟨u, ?_, ?_⟩, ?_, fun j => ?_, fun x hx => ?_, ?_⟩, F1.set 0 _⟩
  · rw [List.length_append, cellsA_snoc]
    exact ownsRow_setCell_below ho (Nat.lt_succ_self _) _
  · rw [set_other (off_ne (by decide))]
    exact hg.cell a1 nb
  · exact ownsRow_setCell_below (own_apart o1 hO (by decide) hg) (Nat.lt_succ_self _) _
  · rw [set_other (off_ne (by decide))]
    exact hg.cell PW.c2 nb
  · rw [World.frozen?_setCell, World.frozen?_of_block (hg.block b PW.lt nb)]
    exact PW.z j
  · rcases List.mem_append.1 hx with z | z
    · exact P.fit x z
    · rw [List.mem_singleton] at z; subst z; exact ht
  · exact laid_set P _ ((F1.set 0 _).low' (Nat.le_of_lt P.lt))

theorem below_here {w W W1 : World} {row : Option Nat} (h : Below w.heap.size w W) (hg : W.grownBy W1 row) : Below w.heap.size w W := h
theorem own_here {W W1 : World} {base size n : Nat} {e : TypeId} {v : Value} {xs : List Value} (h : W.ownsRow base e size v n xs) (hg : W.grownBy W1 v.ownBlock) : W.ownsRow base e size v n xs := h
set_option maxRecDepth 100000 in
set_option maxHeartbeats 4000000 in
theorem put_any {w : World} {b : Nat} {ts : List ATok} {es : List Nat} {e : Int} (P : Pr w b ts es e) (t : ATok) (ht : Fit t) (hn : ts.length ≤ 2000000) :
    Calls Tryz.prog 56 #[ptr b, .agg #[.int .i64 t.kind, .string (str t.text), .int .i64 t.num, .int .i64 t.at']] w fun r w' => r = done ∧ Pr w' b (ts ++ [t]) es e ∧ Fp b w w' := by
  obtain ⟨v, c0, O⟩ := P.c0
  have z0 := P.z 0
  have lt := P.lt
  have HP : Hid (Pr w b ts es e) := ⟨P⟩
  have HC : Hid (w.cell? ⟨b, 0, none⟩ = some v) := ⟨c0⟩
  have nb : ¬ b = w.heap.size := by omega
  obtain ⟨i0, hi, hz0, hz1, hz2⟩ := info_parts info71
  clear P
  go_enter Tryz.func56, Tryz.ntmps56
  go_wp2
  go_region_law (first
    | (refine step_append_lies _ (by rfl) _ _ _ (by rfl) (b + 1) 58 i0 _ 4 40 Tryz.underlying36 hi hz0 hz1 hz2 rfl (by decide) v ts.length (cellsA ts) (by rfl) (by repeat (first | with_reducible exact O | refine own_drew ?_ | refine own_alloc ?_ _)) ⟨w.heap.size + 1, 0, none⟩ 1 1 [.int .i64 t.kind, .string (str t.text), .int .i64 t.num, .int .i64 t.at'] (by rfl) rfl (news1 w _ #[.int .i64 t.kind, .string (str t.text), .int .i64 t.num, .int .i64 t.at'] 58) (by simp [Value.oneCell']) (by decide) (by unfold maxLen; omega) (by omega) (by simp; omega) _ rfl ?_; intro q cap w3 ho hg hat hlt; have HB := below_here (bal (bal (Below.refl _ w) _) _).drew hg; have HO := own_here (own_drew (own_alloc (own_alloc O _) _)) hg; obtain ⟨y0, y1⟩ := put_mid HP.out HB HC.out HO hg; have HE := put_end HP.out ht HC.out HB HO hg ho))
  all_goals go_wp2
  all_goals go_end0
  all_goals exact ⟨rfl, HE⟩

end Go.Proofs.YtofgnpehlheeiaaGreatDoor
