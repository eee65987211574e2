/- The document's check: lists of names. -/
import Derived.Test.YtcbdolflgpmaoaaDoorScpA
import Derived.Test.YtcbdolflgpmaoaaDoorTreeMem
import Derived.WalkKit
import Derived.LoopTactic
import Derived.Laws.Strings
import Derived.WideShapes
import Derived.Deep.RegionWith
namespace Go.Proofs.YtcbdolflgpmaoaaDoor
open Go.RowKit
set_option linter.unusedVariables false
set_option linter.unusedSimpArgs false

theorem str_eqb (a b : List UInt8) : ((str a).toList == (str b).toList) = (a == b) := by
  rw [ByteArray.toList_eq, ByteArray.toList_eq, str_list, str_list]
theorem eqb_comm (a b : List UInt8) : (a == b) = (b == a) := by rw [Bool.eq_iff_iff, beq_iff_eq, beq_iff_eq]; exact eq_comm
theorem strC_get (ls : List Nm) (k : Nat) (h : k < ls.length) : (strC ls)[k]? = some (.string (str (ls[k]'h))) := by
  simp [strC, List.getElem?_eq_getElem h]
theorem drop_has {ls : List Nm} {k : Nat} (h : k < ls.length) (s : Nm) : (ls.drop k).contains s = (((str (ls[k]'h)).toList == (str s).toList) || (ls.drop (k + 1)).contains s) := by
  rw [List.drop_eq_getElem_cons h, List.contains_cons, str_eqb, eqb_comm]
set_option maxHeartbeats 1000000 in
theorem has_any {w : World} {ok : Nat → Prop} (ls : List Nm) (v : Value) (R : IsRow w ok (strC ls) ls.length v) (s : Nm) :
    Calls Tryd.prog 19 #[v, .string (str s)] w fun e w' => e = .returned (.bool (ls.contains s)) ∧ w' = w := by
  obtain ⟨ga, cap, rfl, hc, hx⟩ := R
  obtain ⟨r, hr⟩ : ∃ r, ls.contains s = r := ⟨_, rfl⟩
  have HR : Hid ((ls.drop 0).contains s = r) := ⟨by rw [List.drop_zero]; exact hr⟩
  have HX : Hid (0 < ls.length → ∃ g off, ga = some ⟨g, off, none⟩ ∧ ok g ∧ ∀ (j : Nat) (u : Value), (strC ls)[j]? = some u → w.cell? ⟨g, off + j, none⟩ = some u) := ⟨hx⟩
  rw [hr]
  clear hr hx
  obtain ⟨n, hn⟩ : ∃ n, ls.length = n := ⟨_, rfl⟩
  have HN : Hid (ls.length = n) := ⟨hn⟩
  rw [hn] at hc ⊢
  clear hn
  go_enter Tryd.func19, Tryd.ntmps19
  go_wp2
  go_loopw [5] (fun c wr => ∃ k : Nat, c = .int .i64 k ∧ k ≤ n ∧ Hid ((ls.drop k).contains s = r) ∧ w = wr) (fun c _ => n - (intOf c).toNat)
  case atStart => exact ⟨0, rfl, Nat.zero_le _, HR, rfl⟩
  case round =>
    obtain ⟨k, rfl, hk, HK, rfl⟩ := hrel
    by_cases hlt : k < n
    · have kl : k < ls.length := by rw [HN.out]; exact hlt
      obtain ⟨g, off, rfl, _, hx⟩ := HX.out (by omega)
      have c0 := hx k _ (strC_get ls k kl)
      have hst := HK.out
      rw [drop_has kl s] at hst
      have hlt' : (k : Int) < n := by omega
      generalize str (ls[k]'kl) = t at c0 hst
      cases q : (t.toList == (str s).toList)
      · rw [q, Bool.false_or] at hst
        have HK' : Hid ((ls.drop (k + 1)).contains s = r) := ⟨hst⟩
        clear hst hx HK HR HX
        go_wp2
        exact ⟨⟨k + 1, by go_num, by omega, HK', trivial⟩, by simp [intOf]; omega⟩
      · rw [q, Bool.true_or] at hst
        have HT : Hid (true = r) := ⟨hst⟩
        clear hst hx HK HR HX
        go_wp2
        go_ret
        exact ⟨by rw [← HT.out]; rfl, rfl⟩
    · obtain rfl : k = n := by omega
      have HT : Hid (false = r) := ⟨by have := HK.out; rwa [List.drop_eq_nil_of_le (by rw [HN.out]; omega)] at this⟩
      clear HK HR HX
      go_wp2
      go_ret
      exact ⟨by rw [← HT.out]; rfl, rfl⟩
end Go.Proofs.YtcbdolflgpmaoaaDoor
