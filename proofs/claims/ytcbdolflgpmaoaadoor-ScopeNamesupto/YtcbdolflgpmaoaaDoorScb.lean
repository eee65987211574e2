/- The document's check: doubles, the first data of a name, the fault. -/
import Derived.Test.YtcbdolflgpmaoaaDoorSca
import Derived.Test.YtcbdolflgpmaoaaDoorRdr
import Derived.Deep.RegionHeld3
namespace Go.Proofs.YtcbdolflgpmaoaaDoor
open Go.RowKit
set_option linter.unusedVariables false
set_option linter.unusedSimpArgs false

def twR (ahead : List Nm) : List Nm → Bool
  | [] => false
  | x :: r => ahead.contains x || twR (ahead ++ [x]) r
theorem has_snoc (l : List Nm) (x y : Nm) : (l ++ [x]).contains y = (l.contains y || (y == x)) := by
  rw [List.contains_eq_any_beq, List.any_append, ← List.contains_eq_any_beq]
  simp
theorem any_or (l : List Nm) (x : Nm) (f : Nm → Bool) : l.any (fun y => f y || (y == x)) = (l.any f || l.contains x) := by
  induction l with
  | nil => rfl
  | cons y r ih =>
    rw [List.any_cons, ih, List.any_cons, List.contains_cons, eqb_comm y x]
    cases f y <;> cases (x == y) <;> cases r.any f <;> cases r.contains x <;> rfl
theorem twR_twice : ∀ (l ahead : List Nm), twR ahead l = (l.any ahead.contains || twiceN l)
  | [], _ => rfl
  | x :: r, ahead => by
    rw [twR, twR_twice r, twiceN, List.any_cons]
    have e : r.any (ahead ++ [x]).contains = (r.any ahead.contains || r.contains x) := by
      rw [← any_or]
      congr 1
      funext y
      exact has_snoc ahead x y
    rw [e]
    cases ahead.contains x <;> cases r.any ahead.contains <;> cases r.contains x <;> cases twiceN r <;> rfl
theorem twR_nil (l : List Nm) : twR [] l = twiceN l := by
  rw [twR_twice]
  have : l.any ([] : List Nm).contains = false := by
    rw [List.any_eq_false]; intro x _; simp
  rw [this, Bool.false_or]
theorem take_row {w : World} {ok : Nat → Prop} {ls : List Nm} {ga : Option Addr} {cap k : Nat} (R : IsRow w ok (strC ls) ls.length (.slice ga ls.length cap)) (hk : k ≤ ls.length) : IsRow w ok (strC (ls.take k)) (ls.take k).length (.slice ga k cap) := by
  obtain ⟨ga', cap', e, hc, hx⟩ := R
  simp only [Value.slice.injEq] at e
  obtain ⟨rfl, _, rfl⟩ := e
  have e1 : (ls.take k).length = k := by rw [List.length_take]; omega
  rw [e1]
  refine ⟨ga, cap, rfl, ⟨by omega, by omega⟩, fun hn => ?_⟩
  obtain ⟨g, off, rfl, ho, h⟩ := hx (by omega)
  refine ⟨g, off, rfl, ho, fun j u hj => h j u ?_⟩
  have : strC (ls.take k) = (strC ls).take k := by simp [strC, List.map_take]
  rw [this, List.getElem?_take] at hj
  split at hj
  · exact hj
  · cases hj
theorem has_b {w : World} {ok : Nat → Prop} (ls : List Nm) (v : Value) (R : IsRow w ok (strC ls) ls.length v) (s : Nm) : ∀ W, Below w.heap.size w W →
    Calls Tryd.prog 19 #[v, .string (str s)] W fun e w' => e = .returned (.bool (ls.contains s)) ∧ Below W.heap.size W w' := fun W hW =>
  (has_any (ok := ok) ls v (R.keeps (keeps_below hW (fun _ h => h))) s).mono fun e w' ⟨a, b⟩ => ⟨a, by rw [b]; exact Below.refl _ _⟩
set_option maxHeartbeats 1000000 in
theorem twice_any {w : World} {ok : Nat → Prop} (ls : List Nm) (v : Value) (R : IsRow w ok (strC ls) ls.length v) :
    Calls Tryd.prog 34 #[v] w fun e w' => e = .returned (.bool (twiceN ls)) ∧ Below w.heap.size w w' := by
  have R0 := R
  obtain ⟨ga, cap, rfl, hc, hx⟩ := R
  obtain ⟨r, hr⟩ : ∃ r, twiceN ls = r := ⟨_, rfl⟩
  have HR : Hid (twR (ls.take 0) (ls.drop 0) = r) := ⟨by rw [List.take_zero, List.drop_zero, twR_nil]; exact hr⟩
  have HX : Hid (IsRow w ok (strC ls) ls.length (.slice ga ls.length cap) ∧ (0 < ls.length → ∃ g off, ga = some ⟨g, off, none⟩ ∧ ok g ∧ ∀ (j : Nat) (u : Value), (strC ls)[j]? = some u → w.cell? ⟨g, off + j, none⟩ = some u)) := ⟨R0, hx⟩
  rw [hr]
  clear hr hx R0
  obtain ⟨n, hn⟩ : ∃ n, ls.length = n := ⟨_, rfl⟩
  have HN : Hid (ls.length = n) := ⟨hn⟩
  rw [hn] at hc ⊢
  clear hn
  go_enter Tryd.func34, Tryd.ntmps34
  go_wp2
  go_loopw [3] (fun c wr => ∃ k : Nat, c = .int .i64 k ∧ k ≤ n ∧ Hid (twR (ls.take k) (ls.drop k) = r) ∧ Below w.heap.size w wr) (fun c _ => n - (intOf c).toNat)
  case atStart => exact ⟨0, rfl, Nat.zero_le _, HR, Below.refl _ _⟩
  case round =>
    obtain ⟨k, rfl, hk, HK, BW⟩ := hrel
    by_cases hlt : k < n
    · have kl : k < ls.length := by rw [HN.out]; exact hlt
      obtain ⟨g, off, rfl, _, hx⟩ := HX.out.2 (by omega)
      have c0 := hx k _ (strC_get ls k kl)
      replace c0 := (BW.cell (World.block_lt_of_cell? _ _ c0)).trans c0
      have hst := HK.out
      rw [List.drop_eq_getElem_cons kl, twR, List.take_append_getElem kl] at hst
      have hlt' : (k : Int) < n := by omega
      have kc : ((k : Nat) : Int) ≤ cap := by omega
      have C := has_b (ls.take k) _ (take_row HX.out.1 (by omega)) (ls[k]'kl)
      generalize (ls.take k).contains (ls[k]'kl) = q at hst C
      generalize str (ls[k]'kl) = t at c0 C
      cases q
      · rw [Bool.false_or] at hst
        have HK' : Hid (twR (ls.take (k + 1)) (ls.drop (k + 1)) = r) := ⟨hst⟩
        clear hst hx HK HR HX
        go_wp2
        go_region_held3 (fun w' => w'.cell? ⟨g, off + k, none⟩ = some (.string t)) (go_keep) (first | (go_at_call 19; refine (C _ BW.drew).mono ?_; rintro e w7 ⟨rfl, B7⟩; have BW7 := BW.drew.trans (Joins.below_le B7 BW.size); have c7 := (B7.cell (World.block_lt_of_cell? _ _ c0)).trans c0))
        all_goals go_wp2
        all_goals exact ⟨⟨k + 1, by go_num, by omega, HK', BW7⟩, by simp [intOf]; omega⟩
      · rw [Bool.true_or] at hst
        have HT : Hid (true = r) := ⟨hst⟩
        clear hst hx HK HR HX
        go_wp2
        go_region_held3 (fun w' => w'.cell? ⟨g, off + k, none⟩ = some (.string t)) (go_keep) (first | (go_at_call 19; refine (C _ BW.drew).mono ?_; rintro e w7 ⟨rfl, B7⟩; have BW7 := BW.drew.trans (Joins.below_le B7 BW.size); have c7 := (B7.cell (World.block_lt_of_cell? _ _ c0)).trans c0))
        all_goals go_wp2
        all_goals go_ret
        all_goals exact ⟨by rw [← HT.out]; rfl, BW7⟩
    · obtain rfl : k = n := by omega
      have HT : Hid (false = r) := ⟨by have := HK.out; rwa [List.drop_eq_nil_of_le (by rw [HN.out]; omega)] at this⟩
      clear HK HR HX
      go_wp2
      go_ret
      exact ⟨by rw [← HT.out]; rfl, BW⟩
end Go.Proofs.YtcbdolflgpmaoaaDoor
