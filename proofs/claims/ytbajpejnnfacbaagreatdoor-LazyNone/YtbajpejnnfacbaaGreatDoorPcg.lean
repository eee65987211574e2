/- Package scope: the names of binds; one of a pattern. -/
import Derived.Test.YtbajpejnnfacbaaGreatDoorPcd
import Derived.Test.YtbajpejnnfacbaaGreatDoorPcf
namespace Go.Proofs.YtbajpejnnfacbaaGreatDoor
open Go.RowKit
open Go.Maps (Keyed string_keyed)
set_option linter.unusedVariables false
set_option linter.unusedSimpArgs false

set_option maxHeartbeats 1000000 in
theorem namesOf_any {w : World} {ok : Nat → Prop} (bs : List B) (v : Value) (xs : List Value) (R : IsRow w ok xs bs.length v) (I : isBs w ok bs xs) :
    Calls Tryz.prog 59 #[v] w fun e w' => ∃ r, e = .returned r ∧ Below w.heap.size w w' ∧ Nw w' w.heap.size r (bs.map nameB') := by
  obtain ⟨ga, cap, rfl, hc, hx⟩ := R
  have HX : Hid ((0 < bs.length → ∃ g off, ga = some ⟨g, off, none⟩ ∧ ok g ∧ ∀ (j : Nat) (u : Value), xs[j]? = some u → w.cell? ⟨g, off + j, none⟩ = some u) ∧ isBs w ok bs xs) := ⟨hx, I⟩
  obtain ⟨n, hn⟩ : ∃ n, bs.length = n := ⟨_, rfl⟩
  have HN : Hid (bs.length = n) := ⟨hn⟩
  rw [hn] at hc ⊢
  clear hn hx I
  obtain ⟨i0, hi, hz0, hz1, hz2⟩ := info_parts info9
  go_enter Tryz.func59, Tryz.ntmps59
  go_wp2
  go_loopw [3, 8] (fun v c wr => ∃ k : Nat, c = .int .i64 k ∧ k ≤ n ∧ Below w.heap.size w wr ∧ Nw wr w.heap.size v ((bs.take k).map nameB')) (fun _ c _ => n - (intOf c).toNat)
  case atStart => exact ⟨0, rfl, Nat.zero_le _, Below.refl _ _, by rw [List.take_zero]; exact Nw.nil _ _⟩
  case round =>
    obtain ⟨k, rfl, hk, BW, OW⟩ := hrel
    by_cases hlt : k < n
    · have kl : k < bs.length := by rw [HN.out]; exact hlt
      obtain ⟨g, off, rfl, _, hx⟩ := HX.out.1 (by omega)
      obtain ⟨d, hd, hg⟩ := isBs_get bs xs HX.out.2 k kl
      obtain ⟨a, k1, xa, xm, xs, _, _, _, _, _, rfl, ⟨h2, m2, z2, rfl⟩, ⟨h7, m7, z7, rfl⟩, ⟨h8, m8, z8, rfl⟩, ⟨h9, m9, z9, rfl⟩, ⟨h10, m10, z10, rfl⟩⟩ := isB_ls hd rfl
      have bl : ∀ (j : Nat) (u : Value), [Value.string (str (nameB' (bs[k]'kl))), .int .i64 a, .slice h2 m2 z2, .int .i64 k1, .int .i64 xa, .string xs, .int .i64 xm, .slice h7 m7 z7, .slice h8 m8 z8, .slice h9 m9 z9, .slice h10 m10 z10][j]? = some u → wr.cell? ⟨g, off + k * 11 + j, none⟩ = some u := fun j u hj => by
        have h0 := hx _ _ (hg j u hj)
        rw [← Nat.add_assoc] at h0
        exact (BW.cell (World.block_lt_of_cell? _ _ h0)).trans h0
      have c0 := bl 0 _ rfl
      have c1 := bl 1 _ rfl
      have c2 := bl 2 _ rfl
      have c3 := bl 3 _ rfl
      have c4 := bl 4 _ rfl
      have c5 := bl 5 _ rfl
      have c6 := bl 6 _ rfl
      have c7 := bl 7 _ rfl
      have c8 := bl 8 _ rfl
      have c9 := bl 9 _ rfl
      have c10 := bl 10 _ rfl
      rw [Nat.add_zero] at c0
      have hlt' : (k : Int) < n := by omega
      have e1 : (bs.take (k + 1)).map nameB' = (bs.take k).map nameB' ++ [nameB' (bs[k]'kl)] := by rw [← List.take_append_getElem kl, List.map_append, List.map_cons, List.map_nil]
      have HE : Hid ((bs.take (k + 1)).map nameB' = (bs.take k).map nameB' ++ [nameB' (bs[k]'kl)]) := ⟨e1⟩
      have e2 : ((bs.take k).map nameB').length = k := by rw [List.length_map, List.length_take]; omega
      have HO : Hid (RowS wr w.heap.size 9 1 u3 k (strC ((bs.take k).map nameB'))) := ⟨by have := OW; unfold Nw at this; rwa [e2] at this⟩
      have HBW : Hid (Below w.heap.size w wr) := ⟨BW⟩
      have sB := BW.size
      have HM : Hid (k + 1 ≤ maxLen ∧ (k + 1) * 16 ≤ 140737488355328) := ⟨by unfold maxLen; omega, by omega⟩
      clear hx hd hg OW BW e1 e2 bl
      generalize nameB' (bs[k]'kl) = nm at *
      have d0 : (wr.alloc (.cells #[.string (str nm), .int .i64 a, .slice h2 m2 z2, .int .i64 k1, .int .i64 xa, .string xs, .int .i64 xm, .slice h7 m7 z7, .slice h8 m8 z8, .slice h9 m9 z9, .slice h10 m10 z10] 58)).cell? ⟨wr.heap.size, 0, none⟩ = some (.string (str nm)) := Joins.cell_of_block (heap_alloc_new wr _) 0
      have HS : Hid (0 < 1 → ∃ ad, some (⟨wr.heap.size + 1, 0, none⟩ : Addr) = some ad ∧ ∀ j u, [Value.string (str nm)][j]? = some u → ((wr.alloc (.cells #[.string (str nm), .int .i64 a, .slice h2 m2 z2, .int .i64 k1, .int .i64 xa, .string xs, .int .i64 xm, .slice h7 m7 z7, .slice h8 m8 z8, .slice h9 m9 z9, .slice h10 m10 z10] 58)).alloc (.cells #[.string (str nm)] 9)).cell? (ad.add j) = some u) := ⟨fun _ => ⟨_, rfl, by have := @new_one (wr.alloc (.cells #[.string (str nm), .int .i64 a, .slice h2 m2 z2, .int .i64 k1, .int .i64 xa, .string xs, .int .i64 xm, .slice h7 m7 z7, .slice h8 m8 z8, .slice h9 m9 z9, .slice h10 m10 z10] 58)) (.string (str nm)) 9; rwa [World.size_alloc] at this⟩⟩
      have HA : Hid (Below wr.heap.size wr ((wr.alloc (.cells #[.string (str nm), .int .i64 a, .slice h2 m2 z2, .int .i64 k1, .int .i64 xa, .string xs, .int .i64 xm, .slice h7 m7 z7, .slice h8 m8 z8, .slice h9 m9 z9, .slice h10 m10 z10] 58)).alloc (.cells #[.string (str nm)] 9))) := ⟨(Joins.below_alloc1 wr _).alloc (Joins.below_alloc1 wr _).size _⟩
      go_wp2_with (at_builtin; refine wpList_append_T rfl (.tmp 12) (.tmp 15) 54 rfl w.heap.size 9 i0 _ 1 16 Tryz.underlying54 hi hz0 hz1 hz2 rfl (by decide) u3 k (strC ((bs.take k).map nameB')) rfl (RowS.kept HO.out HA.out) (some ⟨wr.heap.size + 1, 0, none⟩) 1 1 [.string (str nm)] rfl rfl HS.out one_cell (k + 1) rfl (strC ((bs.take k).map nameB') ++ [.string (str nm)]) rfl HM.out.1 HM.out.2 (Nat.le_trans sB HA.out.size) ?_; intro g1 c1 w1 R1 B1; have HR1 : Hid (RowS w1 w.heap.size 9 1 (.slice g1 (k + 1) c1) (k + 1) (strC ((bs.take k).map nameB') ++ [.string (str nm)])) := ⟨R1⟩; have HB1 : Hid (Below w.heap.size w w1) := ⟨(HBW.out.trans (Joins.below_le HA.out sB)).trans B1⟩; clear R1 B1)
      refine ⟨⟨k + 1, by go_num, by omega, HB1.out, ?_⟩, by simp [intOf]; omega⟩
      unfold Nw
      rw [HE.out, strC_snoc, List.length_append, List.length_map, List.length_take, Nat.min_eq_left (by omega)]
      exact HR1.out
    · obtain rfl : k = n := by omega
      have HO : Hid (Nw wr w.heap.size u3 (bs.map nameB')) := ⟨by have := OW; rwa [List.take_of_length_le (by rw [HN.out]; exact Nat.le_refl _)] at this⟩
      have HBW : Hid (Below w.heap.size w wr) := ⟨BW⟩
      clear BW OW
      go_wp2
      go_ret
      exact ⟨_, rfl, HBW.out, HO.out⟩
section
variable {w w' : World} {b f m nf n : Nat} {fl : Nm → Option Int} {bd : Nm → Nat}
/-- an alternative's cells -/
abbrev altV (k a : Int) (s : ByteArray) (n : Int) (v4 : Value) (k1 xa : Int) (xs : ByteArray) (xm : Int) (v9 v10 v11 v12 : Value) : Array Value := #[.int .i64 k, .int .i64 a, .string s, .int .i64 n, v4, .int .i64 k1, .int .i64 xa, .string xs, .int .i64 xm, v9, v10, v11, v12]
set_option maxHeartbeats 2000000 in
theorem onlyOne_any (h : Cs w b f m nf n fl bd) (k a xn k1 xa xm : Int) (s xs : ByteArray) (g4 g9 g10 g11 g12 : Option Addr) (n4 n9 n10 n11 n12 c4 c9 c10 c11 c12 : Nat) (q : Bool) :
    Calls Tryz.prog 136 #[ptr b, .agg (altV k a s xn (.slice g4 n4 c4) k1 xa xs xm (.slice g9 n9 c9) (.slice g10 n10 c10) (.slice g11 n11 c11) (.slice g12 n12 c12)), .bool q] w (Res w b f m nf n fl bd (if q = true then some (a, 30) else none)) := by
  have CW := Hid.mk (h.alloc (.cells (altV k a s xn (.slice g4 n4 c4) k1 xa xs xm (.slice g9 n9 c9) (.slice g10 n10 c10) (.slice g11 n11 c11) (.slice g12 n12 c12)) 95))
  have BW := Hid.mk (Joins.below_alloc1 w (.cells (altV k a s xn (.slice g4 n4 c4) k1 xa xs xm (.slice g9 n9 c9) (.slice g10 n10 c10) (.slice g11 n11 c11) (.slice g12 n12 c12)) 95))
  have d1 : (w.alloc (.cells (altV k a s xn (.slice g4 n4 c4) k1 xa xs xm (.slice g9 n9 c9) (.slice g10 n10 c10) (.slice g11 n11 c11) (.slice g12 n12 c12)) 95)).cell? ⟨w.heap.size, 1, none⟩ = some (.int .i64 a) := Joins.cell_of_block (heap_alloc_new w _) 1
  have FA := pfail_any CW.out a 30
  clear h
  cases q
  · rw [if_neg (by simp)]
    go_enter Tryz.func136, Tryz.ntmps136
    go_wp2
    go_ret
    exact ⟨rfl, Ge.of_below BW.out, CW.out⟩
  · rw [if_pos rfl]
    go_enter Tryz.func136, Tryz.ntmps136
    go_wp2_with (go_at_call 45; refine FA.mono ?_; rintro e w8 ⟨rfl, G8, F8⟩; have HE := Hid.mk (And.intro G8 F8); clear G8 F8)
    go_ret
    exact ⟨rfl, (Ge.of_below BW.out).trans HE.out.1, HE.out.2⟩
end
end Go.Proofs.YtbajpejnnfacbaaGreatDoor
