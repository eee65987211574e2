/- Package scope's checker: atoms; the names of binds. -/
import Derived.Test.YtcbdolflgpmaoaaDoorPce
import Derived.Test.YtcbdolflgpmaoaaDoorSck
namespace Go.Proofs.YtcbdolflgpmaoaaDoor
open Go.RowKit
open Go.Maps (Keyed string_keyed)
set_option linter.unusedVariables false
set_option linter.unusedSimpArgs false

section
variable {w w' : World} {b f m nf n : Nat} {fl : Nm → Option Int} {bd : Nm → Nat}
/-- which names are in scope -/
abbrev scD (bd : Nm → Nat) : Nm → Bool := fun y => decide (0 < bd y)
set_option maxHeartbeats 4000000 in
theorem patoms_any (h : Cs w b f m nf n fl bd) (k a xm : Int) (s : ByteArray) (ts : List Atm) (vt : Value) (T : IsRow w (but3 b f m) (atmC ts) ts.length vt) (g5 g6 g7 : Option Addr) (n5 n6 n7 c5 c6 c7 : Nat) (hl : ∀ t ∈ ts, t.name.length ≤ maxLen) :
    Calls Tryd.prog 80 #[ptr b, .agg #[.int .i64 k, .int .i64 a, .string s, .int .i64 xm, vt, .slice g5 n5 c5, .slice g6 n6 c6, .slice g7 n7 c7]] w (Res w b f m nf n fl bd (atmF a (scD bd) ts)) := by
  obtain ⟨ga, cap, rfl, hc, hx⟩ := T
  obtain ⟨F, hF⟩ : ∃ F, atmF a (scD bd) ts = F := ⟨_, rfl⟩
  have HR : Hid (atmF a (scD bd) (ts.drop 0) = F) := ⟨by rw [List.drop_zero]; exact hF⟩
  rw [hF]
  have HX := Hid.mk hx
  have HL := Hid.mk hl
  obtain ⟨l, hl⟩ : ∃ l, ts.length = l := ⟨_, rfl⟩
  have HN := Hid.mk hl
  rw [hl] at hc ⊢
  have H1 := Hid.mk (h.alloc (.cells #[.int .i64 k, .int .i64 a, .string s, .int .i64 xm, .slice ga l cap, .slice g5 n5 c5, .slice g6 n6 c6, .slice g7 n7 c7] 45))
  have X1 : Bx (w.alloc (.cells #[.int .i64 k, .int .i64 a, .string s, .int .i64 xm, .slice ga l cap, .slice g5 n5 c5, .slice g6 n6 c6, .slice g7 n7 c7] 45)) w.heap.size #[.int .i64 k, .int .i64 a, .string s, .int .i64 xm, .slice ga l cap, .slice g5 n5 c5, .slice g6 n6 c6, .slice g7 n7 c7] 45 := heap_alloc_new w _
  have B1 := Hid.mk (Joins.below_alloc1 w (.cells #[.int .i64 k, .int .i64 a, .string s, .int .i64 xm, .slice ga l cap, .slice g5 n5 c5, .slice g6 n6 c6, .slice g7 n7 c7] 45))
  have y4 := X1.cell 4
  have HX1 := Hid.mk X1
  clear hF hl hx h X1
  go_enter Tryd.func80, Tryd.ntmps80
  go_wp2
  generalize w.alloc (.cells #[.int .i64 k, .int .i64 a, .string s, .int .i64 xm, .slice ga l cap, .slice g5 n5 c5, .slice g6 n6 c6, .slice g7 n7 c7] 45) = w1 at *
  go_loopw [10] (fun c wr => ∃ j : Nat, c = .int .i64 j ∧ j ≤ l ∧ Hid (Below w.heap.size w wr) ∧ Hid (Cs wr b f m nf n fl bd) ∧ Hid (atmF a (scD bd) (ts.drop j) = F) ∧ Hid (Bx wr w.heap.size #[.int .i64 k, .int .i64 a, .string s, .int .i64 xm, .slice ga l cap, .slice g5 n5 c5, .slice g6 n6 c6, .slice g7 n7 c7] 45)) (fun c _ => l - (intOf c).toNat)
  case atStart => exact ⟨0, rfl, Nat.zero_le _, B1, H1, HR, HX1⟩
  case round =>
    obtain ⟨j, rfl, hj, BW, CW, HK, XW⟩ := hrel
    by_cases hlt : j < l
    · have kl : j < ts.length := by rw [HN.out]; exact hlt
      obtain ⟨g, off, rfl, hg, hx⟩ := HX.out (by rw [HN.out]; omega)
      have c0 := hx _ _ (atmC_get ts j kl).1
      have c1 := hx _ _ (atmC_get ts j kl).2
      replace c0 := (BW.out.cell (World.block_lt_of_cell? _ _ c0)).trans c0
      replace c1 := (BW.out.cell (World.block_lt_of_cell? _ _ c1)).trans c1
      rw [← Nat.add_assoc] at c1
      have hs := HL.out _ (List.getElem_mem kl)
      have hst := HK.out
      rw [List.drop_eq_getElem_cons kl, atmF] at hst
      have hlt' : (j : Int) < l := by omega
      generalize (ts[j]'kl).num = tn at c1
      generalize (ts[j]'kl).name = nm at *
      have CW1 := Hid.mk (CW.out.alloc (.cells #[.string (str nm), .int .i64 tn] 40))
      have BW1 : Hid (Below w.heap.size w (wr.alloc (.cells #[.string (str nm), .int .i64 tn] 40))) := ⟨BW.out.alloc (BW.out.size) _⟩
      have XW1 : Hid (Bx (wr.alloc (.cells #[.string (str nm), .int .i64 tn] 40)) w.heap.size #[.int .i64 k, .int .i64 a, .string s, .int .i64 xm, .slice (some ⟨g, off, none⟩) l cap, .slice g5 n5 c5, .slice g6 n6 c6, .slice g7 n7 c7] 45) := ⟨((Joins.below_alloc1 wr _).block _ XW.out.lt).trans XW.out⟩
      have d0 : (wr.alloc (.cells #[.string (str nm), .int .i64 tn] 40)).cell? ⟨wr.heap.size, 0, none⟩ = some (.string (str nm)) := Joins.cell_of_block (heap_alloc_new wr _) 0
      have d1 : (wr.alloc (.cells #[.string (str nm), .int .i64 tn] 40)).cell? ⟨w.heap.size, 1, none⟩ = some (.int .i64 a) := XW1.out.cell 1
      have C := phas_any CW1.out nm hs
      have FA := pfail_any CW1.out a 31
      by_cases q : nm = []
      · rw [if_neg (fun z => z.1 q)] at hst
        have HK' := Hid.mk hst
        have q' : (str nm).toList = [] := by rw [q, ByteArray.toList_eq]; rfl
        clear hst hx HK HR HX q C FA CW BW XW H1 B1 HX1
        go_wp2
        exact ⟨⟨j + 1, by go_num, by omega, BW1, CW1, HK', XW1⟩, by simp [intOf]; omega⟩
      · have q' : ¬ (str nm).toList = [] := by rw [ByteArray.toList_eq, str_list]; exact q
        have q2 : (!(str nm).toList.isEmpty) = true := by rw [ByteArray.toList_eq, str_list]; simp [q]
        cases z : decide (0 < bd nm)
        · rw [if_pos ⟨q, z⟩] at hst
          rw [z] at C
          have HT := Hid.mk hst
          clear hst hx HK HR HX q z CW BW XW H1 B1 HX1
          go_wp2_with (first
            | (go_at_call 32; refine C.mono ?_; rintro e w7 ⟨rfl, rfl⟩)
            | (go_at_call 33; refine FA.mono ?_; rintro e w8 ⟨rfl, G8, F8⟩; have HE := Hid.mk (And.intro G8 F8); clear G8 F8))
          go_ret
          rw [← HT.out]
          exact ⟨rfl, (Ge.of_below BW1.out).trans HE.out.1, HE.out.2⟩
        · rw [if_neg (fun y => by rw [scD, z] at y; exact absurd y.2 (by simp))] at hst
          rw [z] at C
          have HK' := Hid.mk hst
          clear hst hx HK HR HX q z CW BW XW H1 B1 HX1 FA
          go_wp2_with (first
            | (go_at_call 32; refine C.mono ?_; rintro e w7 ⟨rfl, rfl⟩))
          exact ⟨⟨j + 1, by go_num, by omega, BW1, CW1, HK', XW1⟩, by simp [intOf]; omega⟩
    · obtain rfl : j = l := by omega
      have HT : Hid (F = none) := ⟨by have := HK.out; rw [List.drop_eq_nil_of_le (by rw [HN.out]; omega), atmF] at this; exact this.symm⟩
      clear HK HR HX XW H1 B1 HX1
      go_wp2
      go_ret
      rw [HT.out]
      exact ⟨rfl, Ge.of_below BW.out, CW.out⟩
end
end Go.Proofs.YtcbdolflgpmaoaaDoor
