/- Package heap: rows of numbers one behind the other (slices.Clone, Grow, Concat). -/
import Derived.Laws.AppendOwnNone
import Derived.Test.YtbdoekffadmejaaGreatDoorShu
import Derived.Test.YtbdoekffadmejaaGreatDoorHmx
namespace Go.Proofs.YtbdoekffadmejaaGreatDoor
open Go.RowKit
set_option linter.unusedVariables false
set_option linter.unusedSimpArgs false
set_option maxRecDepth 100000

theorem grow_own (n : Nat) (hn : n ≤ 1000000) (w : World) : Calls Tryz.prog 171 #[.slice none 0 0, .int .i64 n] w fun e w' => ∃ v, e = .returned v ∧ w'.ownsRow w.heap.size 3 1 v 0 [] ∧ Below w.heap.size w w' := by
  by_cases h0 : n = 0
  · subst h0
    refine (Any8.slices_Grow_room Tryz.growI none 0 0 0 w (by omega) (by omega) (by omega) (by omega)).mono ?_
    rintro e w' ⟨rfl, hw⟩
    rw [hw]
    exact ⟨_, rfl, World.ownsRow_nil _ _ _ _, Below.refl _ _⟩
  · obtain ⟨i0, hi, hz0, hz1, hz2⟩ := info_parts info3
    refine (Any8.slices_Grow_grow Tryz.growI i0 (.int .i64 0) hi hz0 (by omega) none 0 0 n [] w (by omega) (by omega) (by rw [hz2]; omega) (by omega) (by simp) (fun _ => rfl) (fun a e => by cases e)).mono ?_
    rintro e w' ⟨rfl, rfl⟩
    refine ⟨_, rfl, ⟨rfl, .inr ⟨_, _, _, rfl, Nat.le_refl _, heap_alloc_new w.drew _, Nat.zero_le _, ?_, ?_, rfl⟩⟩, (below_drew1 w).alloc (Nat.le_refl _) _⟩
    · rw [Nat.zero_add]; exact grownCap_le_maxLen _ _ _ _ (by unfold maxLen; omega)
    · have g := grownCap_ge w (0 + n) 0 (Tryz.growI_ren.t 25)
      have e : ∀ c : Nat, (Builtin.zeroCells (Value.int .i64 0).cells c).size = c := fun c => by simp [Builtin.zeroCells, Value.cells]
      simp only [Array.size_append, e, Nat.mul_one]
      show 0 + _ + _ = _
      omega
/-- A list of numbers in a slice, nil or not. -/
def SlV (w : World) (v : Value) (l : List Int) : Prop := (v = .slice none 0 0 ∧ l = []) ∨ ∃ p c, v = .slice (some ⟨p, 0, none⟩) l.length c ∧ p < w.heap.size ∧ ∀ j (hj : j < l.length), w.cell? ⟨p, j, none⟩ = some (.int .i64 l[j])
theorem SlV.of {w : World} {base : Nat} {v : Value} {l : List Int} (r : w.ownsRow base 3 1 v l.length (ints l)) : SlV w v l := by
  rcases r.2 with ⟨e0, h0⟩ | ⟨b, cap, cur, rfl, hb, hg, X⟩
  · exact .inl ⟨e0, List.length_eq_zero_iff.1 h0⟩
  · refine .inr ⟨b, cap, rfl, lt_of hg, fun j hj => ?_⟩
    have := r.cellAt j (by omega)
    rw [show (ints l)[j]? = some (.int .i64 l[j]) by unfold ints; rw [List.getElem?_map, List.getElem?_eq_getElem hj]; rfl] at this
    simpa using this
theorem SlV.later {w w' : World} {v : Value} {l : List Int} (s : SlV w v l) (b : Below w.heap.size w w') : SlV w' v l := by
  rcases s with s | ⟨p, c, e, hp, hc⟩
  · exact .inl s
  · exact .inr ⟨p, c, e, Nat.lt_of_lt_of_le hp b.size, fun j hj => (b.cell (p := ⟨p, j, none⟩) hp).trans (hc j hj)⟩
theorem clone_any {w : World} {v : Value} {l : List Int} (s : SlV w v l) (hl : l.length ≤ 1000000) : Calls Tryz.prog 131 #[v] w fun e w' => ∃ v', e = .returned v' ∧ w'.ownsRow w.heap.size 3 1 v' l.length (ints l) ∧ Below w.heap.size w w' := by
  rcases s with ⟨rfl, rfl⟩ | ⟨p, c, rfl, hp, hc⟩
  · refine (Go.Proofs.Any.slices_Clone_int_nil Tryz.cloneI 0 0 w).mono ?_
    rintro e w' ⟨rfl, hw⟩
    rw [hw]
    exact ⟨_, rfl, World.ownsRow_nil _ _ _ _, Below.refl _ _⟩
  · refine (Go.Proofs.Any.slices_Clone_int Tryz.cloneI p 0 l.length c l w (Nat.le_refl _) (by omega) (fun j hj => by rw [Nat.zero_add, hc j hj, List.getD_eq_getElem?_getD, List.getElem?_eq_getElem hj]; rfl)).mono ?_
    rintro e w' ⟨v', rfl, r, _, B⟩
    rw [List.take_of_length_le (Nat.le_refl _)] at r
    exact ⟨v', rfl, r, B⟩
/-- Lists one behind the other. -/
def cat (ls : Nat → List Int) (j : Nat) : List Int := (List.range j).flatMap ls
theorem cat_succ (ls : Nat → List Int) (j : Nat) : cat ls (j + 1) = cat ls j ++ ls j := by
  unfold cat; rw [List.range_succ, List.flatMap_append]; simp
theorem cat_le (ls : Nat → List Int) {j m : Nat} (h : j ≤ m) : (cat ls j).length ≤ (cat ls m).length := by
  induction h with
  | refl => exact Nat.le_refl _
  | step _ ih => rw [cat_succ, List.length_append]; omega
theorem grown_bel {w w1 w2 : World} {e : TypeId} {v : Value} {n : Nat} {xs : List Value} (B : Below w.heap.size w w1) (r : w1.ownsRow w.heap.size e 1 v n xs) (G : w1.grownBy w2 v.ownBlock) : Below w.heap.size w w2 :=
  ⟨G.os.trans B.os, G.tape.trans B.tape, G.output.trans B.output, Nat.le_trans B.size G.size, fun k hk => (G.block k (Nat.lt_of_lt_of_le hk B.size) (fun e => by have := (r.lt k e.symm).1; omega)).trans (B.block k hk)⟩
set_option maxHeartbeats 1000000 in
theorem concat_any {w : World} {vb m : Nat} {vs : Nat → Value} {ls : Nat → List Int} (hvb : vb < w.heap.size) (hc : ∀ i, i < m → w.cell? ⟨vb, i, none⟩ = some (vs i)) (hs : ∀ i, i < m → SlV w (vs i) (ls i)) (hm : m ≤ 1000) (hl : (cat ls m).length ≤ 1000000) :
    Calls Tryz.prog 132 #[.slice (some ⟨vb, 0, none⟩) m m] w fun e w' => ∃ v, e = .returned v ∧ w'.ownsRow w.heap.size 3 1 v (cat ls m).length (ints (cat ls m)) ∧ Below w.heap.size w w' := by
  obtain ⟨i0, hi, hz0, hz1, hz2⟩ := info_parts info3
  have HI := Hid.mk (And.intro hi (And.intro hz0 (And.intro hz1 hz2)))
  have HC : Hid (∀ (W : World), Below w.heap.size w W → ∀ i, i < m → W.cell? ⟨vb, i, none⟩ = some (vs i)) := ⟨fun W b i h => (b.cell (p := ⟨vb, i, none⟩) hvb).trans (hc i h)⟩
  have HS : Hid (∀ (W : World), Below w.heap.size w W → ∀ i, i < m → SlV W (vs i) (ls i)) := ⟨fun W b i h => (hs i h).later b⟩
  have HL : Hid (∀ j, j ≤ m → (cat ls j).length ≤ 1000000) := ⟨fun j h => Nat.le_trans (cat_le ls h) hl⟩
  clear hi hz0 hz1 hz2 hc hs
  go_enter Tryz.func132, Tryz.ntmps132
  go_wp2
  go_loopw [3, 11] (fun s i wr => ∃ j : Nat, s = .int .i64 ((cat ls j).length : Nat) ∧ i = .int .i64 j ∧ j ≤ m ∧ w = wr) (fun _ i _ => m - (intOf i).toNat)
  case atStart => exact ⟨0, rfl, rfl, Nat.zero_le _, rfl⟩
  case round =>
    obtain ⟨j, rfl, rfl, hj, rfl⟩ := hrel
    by_cases hlt : j < m
    · have hlt' : (j : Int) < m := by omega
      have ck := HC.out _ (Below.refl _ _) j hlt
      have b1 := HL.out j (by omega)
      have b2 := HL.out (j + 1) hlt
      have e2 : (cat ls (j + 1)).length = (cat ls j).length + (ls j).length := by rw [cat_succ, List.length_append]
      rw [e2] at b2
      have HE := Hid.mk e2
      clear e2
      generalize (cat ls j).length = t at *
      rcases HS.out _ (Below.refl _ _) j hlt with ⟨e1, e3⟩ | ⟨p, c, e1, hp, hpc⟩
      · rw [e1] at ck
        rw [e3] at b2
        have e4 : Hid ((cat ls (j + 1)).length = t) := ⟨by rw [HE.out, e3]; rfl⟩
        clear HE e3 b2
        have e5 : IntKind.i64.wrap ((t : Int) + 0) = t := by rw [IntKind.wrap_i64]; omega
        go_wp2
        go_roundw
        case rel => exact ⟨j + 1, by rw [e4.out], by go_num, by omega, by first | rfl | trivial⟩
        case measure => show m - ((j : Int) + 1).toNat < m - ((j : Int)).toNat; omega
      · clear hpc
        rw [e1] at ck
        generalize (ls j).length = n2 at *
        have e5 : IntKind.i64.wrap ((t : Int) + n2) = t + n2 := by rw [IntKind.wrap_i64]; omega
        go_wp2
        go_roundw
        case rel => exact ⟨j + 1, by rw [HE.out]; push_cast; rfl, by go_num, by omega, by first | rfl | trivial⟩
        case measure => show m - ((j : Int) + 1).toNat < m - ((j : Int)).toNat; omega
    · obtain rfl : m = j := by omega
      have GO := grow_own (cat ls m).length hl w
      go_wp2_with (go_at_call 171; refine GO.mono ?_; rintro e w1 ⟨v, rfl, R1, B1⟩; obtain ⟨ga, k, c, rfl⟩ := row_sl R1; have HR1 := Hid.mk R1; have HB1 := Hid.mk B1; clear R1 B1)
      go_loopw [6, 27] (fun v i wq => ∃ j : Nat, i = .int .i64 j ∧ j ≤ m ∧ Hid (wq.ownsRow w.heap.size 3 1 v (cat ls j).length (ints (cat ls j))) ∧ Hid (Below w.heap.size w wq)) (fun _ i _ => m - (intOf i).toNat)
      case atStart => exact ⟨0, rfl, Nat.zero_le _, HR1, HB1⟩
      case round =>
        obtain ⟨j, rfl, hj, HR, HB⟩ := hrel
        by_cases hlt : j < m
        · have hlt' : (j : Int) < m := by omega
          have ck := HC.out _ HB.out j hlt
          have b1 := HL.out j (by omega)
          have b2 := HL.out (j + 1) hlt
          have e2 : (cat ls (j + 1)).length = (cat ls j).length + (ls j).length := by rw [cat_succ, List.length_append]
          rw [e2] at b2
          have HE := Hid.mk e2
          obtain ⟨ga1, k1, c1, rfl⟩ := row_sl HR.out
          have HS1 := HS.out _ HB.out j hlt
          generalize vs j = u at ck HS1
          rcases HS1 with ⟨e1, e3⟩ | ⟨p, c, e1, hp, hpc⟩
          · have He := Hid.mk e1
            clear e1
            go_wp2_with (at_builtin; refine wpList_append_own_none rfl _ _ 31 rfl w.heap.size 3 i0 1 Tryz.underlying31 HI.out.1 _ _ _ rfl HR.out He.out ?_)
            go_roundw
            case rel => exact ⟨j + 1, by go_num, by omega, ⟨by rw [cat_succ, e3, List.append_nil]; exact HR.out⟩, HB⟩
            case measure => show m - ((j : Int) + 1).toNat < m - ((j : Int)).toNat; omega
          · have He := Hid.mk e1
            clear e1
            go_wp2_with (at_builtin; refine wpList_append_own _ rfl _ _ 31 rfl w.heap.size 3 i0 _ 1 8 Tryz.underlying31 HI.out.1 HI.out.2.1 HI.out.2.2.1 HI.out.2.2.2 rfl (by decide) _ _ _ rfl HR.out ⟨p, 0, none⟩ (ls j).length c (ints (ls j)) He.out (by simp [ints]) (fun i u hu => by
              unfold ints at hu
              rw [List.getElem?_map] at hu
              obtain ⟨y, hy, rfl⟩ := Option.map_eq_some_iff.1 hu
              obtain ⟨hi, rfl⟩ := List.getElem?_eq_some_iff.1 hy
              have e : (⟨p, 0, none⟩ : Addr).add i = ⟨p, i, none⟩ := by unfold Addr.add; split <;> simp_all
              rw [e]; exact hpc i hi) (fun u hu => by unfold ints at hu; obtain ⟨y, _, rfl⟩ := List.mem_map.1 hu; rfl) (by unfold maxLen; omega) (by omega) (by have := HB.out.size; omega) ?_; intro v2 w2 ho hg hnil)
            go_roundw
            case rel => exact ⟨j + 1, by go_num, by omega, ⟨by rw [HE.out, cat_succ]; unfold ints at *; rw [List.map_append]; exact ho⟩, ⟨grown_bel HB.out HR.out hg⟩⟩
            case measure => show m - ((j : Int) + 1).toNat < m - ((j : Int)).toNat; omega
        · obtain rfl : m = j := by omega
          go_wp2
          go_ret
          exact ⟨_, rfl, HR.out, HB.out⟩
end Go.Proofs.YtbdoekffadmejaaGreatDoor
