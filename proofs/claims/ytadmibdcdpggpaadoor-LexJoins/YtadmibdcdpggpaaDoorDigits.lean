/- The document's own decimal digits. -/
import Derived.Test.YtadmibdcdpggpaaDoorJoin
import Derived.Laws.IdiomStrings
import Derived.Laws.Concat
namespace Go.Proofs.YtadmibdcdpggpaaDoor
open Go.RowKit
set_option linter.unusedVariables false

theorem str_app (a b : List UInt8) : str a ++ str b = str (a ++ b) := ByteArray.mk_append_mk a b
theorem one_byte (wr : World) (d : Nat) (h : d ≤ 9) : (convert 47 9 (.slice (some ⟨wr.heap.size, 0, none⟩) 1 1)).run Tryd.prog (wr.alloc (Obj.cells #[Value.int .u8 (48 + (d : Int))] 5)) = .ok (.string (str [UInt8.ofNat (48 + d)])) (wr.alloc (Obj.cells #[Value.int .u8 (48 + (d : Int))] 5)) := by
  have e : (48 + (d : Int)) = ((UInt8.ofNat (48 + d)).toNat : Int) := by simp; omega
  have q := run_convert_bytes_back (P := Tryd.prog) (wr.alloc (Obj.cells #[Value.int .u8 (48 + (d : Int))] 5)) 47 9 5 ⟨wr.heap.size, 0, none⟩ 1 [UInt8.ofNat (48 + d)] Tryd.underlying47 Tryd.underlying5 Tryd.underlying9
  rw [e] at q ⊢
  refine q (fun j hj => ?_)
  have : j = 0 := by simpa using hj
  subst this
  have e2 : (⟨wr.heap.size, 0, none⟩ : Addr).add 0 = ⟨wr.heap.size, 0, none⟩ := by unfold Addr.add; simp
  rw [e2, Joins.cell_of_block (heap_alloc_new _ _)]
  rfl

set_option maxRecDepth 100000 in
set_option maxHeartbeats 2000000 in
theorem digits_pos (n : Nat) (h0 : True) (h1 : n ≤ 9223372036854775807) (w : World) :
    Calls Tryd.prog 33 #[.int .i64 ((n : Int))] w fun e w' => e = .returned (.string (str (Lib.decDigits n))) ∧ Below w.heap.size w w' := by
  have hlen : (Lib.decDigits n).length ≤ 20 := by rw [Lib.decDigits_length]; exact Lib.nDigits_le20 n (by omega)
  have HL : Hid ((Lib.decDigits n).length ≤ 20) := ⟨hlen⟩
  clear hlen
  go_enter Tryd.func33, Tryd.ntmps33
  go_wp2
  go_loopw [3, 4] (fun sv mv wr => ∃ (x : List UInt8) (u : Nat), sv = .string (str x) ∧ mv = .int .i64 ((u : Int)) ∧ u ≤ 9223372036854775807 ∧ Hid (Lib.decDigits n = Lib.decDigits u ++ x) ∧ Below w.heap.size w wr) (fun _ mv _ => (intOf mv).natAbs)
  case atStart => exact ⟨[], n, rfl, rfl, h1, ⟨by simp⟩, Below.refl _ _⟩
  case round =>
    obtain ⟨x, u, rfl, rfl, hu, HD, BR⟩ := hrel
    have hx : x.length ≤ 20 := by have := HL.out; rw [HD.out, List.length_append] at this; omega
    have hm : u % 10 < 10 := Nat.mod_lt _ (by decide)
    obtain ⟨d, hd⟩ : ∃ d : Nat, u % 10 = d := ⟨_, rfl⟩
    have hC : (convert 47 9 (.slice (some ⟨wr.heap.size, 0, none⟩) 1 1)).run Tryd.prog (wr.alloc (Obj.cells #[Value.int .u8 (48 + (d : Int))] 5)) = .ok (.string (str [UInt8.ofNat (48 + d)])) (wr.alloc (Obj.cells #[Value.int .u8 (48 + (d : Int))] 5)) :=
      one_byte wr d (by omega)
    have hS : ∀ w', (Op.stringOp .add (str [UInt8.ofNat (48 + d)]) (str x)).run Tryd.prog w' = .ok (.string (str (UInt8.ofNat (48 + d) :: x))) w' := fun w' => by
      rw [run_string_add_sum w' _ _ (by rw [str_size, str_size]; simp; omega), str_app]; rfl
    have hdi : (u : Int) % 10 = d := by omega
    obtain ⟨c, hc⟩ : ∃ c, UInt8.ofNat (48 + d) = c := ⟨_, rfl⟩
    have HC : Hid (UInt8.ofNat (48 + d) = c) := ⟨hc⟩
    rw [hc] at hC
    rw [hc] at hS
    clear hc
    by_cases hz : u / 10 = 0
    · have HE : Hid (Lib.decDigits n = c :: x) := ⟨by rw [HD.out, Lib.decDigits, dif_pos (by omega), show u = d by omega, HC.out]; rfl⟩
      have hq : (u : Int) / 10 = 0 := by omega
      clear HD hm hd
      go_wp2
      go_ret
      exact ⟨by rw [HE.out]; rfl, BR.alloc BR.size _⟩
    · have HE : Hid (Lib.decDigits n = Lib.decDigits (u / 10) ++ (c :: x)) := ⟨by rw [HD.out, Lib.decDigits, dif_neg (by omega), hd, List.append_assoc, HC.out]; rfl⟩
      have hq : ((u : Int) / 10 == 0) = false := by simp; omega
      obtain ⟨v, hv⟩ : ∃ v, u / 10 = v := ⟨_, rfl⟩
      clear HD hm hd
      go_wp2
      go_roundw
      case rel => exact ⟨c :: x, u / 10, rfl, by simp, by omega, HE, BR.alloc BR.size _⟩
      case measure => simp [intOf]; omega

set_option maxRecDepth 100000 in
set_option maxHeartbeats 2000000 in
theorem digits_neg (n : Nat) (h0 : 1 ≤ n) (h1 : n ≤ 9223372036854775808) (w : World) :
    Calls Tryd.prog 33 #[.int .i64 (-(n : Int))] w fun e w' => e = .returned (.string (str (45 :: Lib.decDigits n))) ∧ Below w.heap.size w w' := by
  have hlen : (Lib.decDigits n).length ≤ 20 := by rw [Lib.decDigits_length]; exact Lib.nDigits_le20 n (by omega)
  have HL : Hid ((Lib.decDigits n).length ≤ 20) := ⟨hlen⟩
  clear hlen
  go_enter Tryd.func33, Tryd.ntmps33
  go_wp2
  go_loopw [3, 4] (fun sv mv wr => ∃ (x : List UInt8) (u : Nat), sv = .string (str x) ∧ mv = .int .i64 (-(u : Int)) ∧ u ≤ 9223372036854775808 ∧ Hid (Lib.decDigits n = Lib.decDigits u ++ x) ∧ Below w.heap.size w wr) (fun _ mv _ => (intOf mv).natAbs)
  case atStart => exact ⟨[], n, rfl, rfl, h1, ⟨by simp⟩, Below.refl _ _⟩
  case round =>
    obtain ⟨x, u, rfl, rfl, hu, HD, BR⟩ := hrel
    have hx : x.length ≤ 20 := by have := HL.out; rw [HD.out, List.length_append] at this; omega
    have hm : u % 10 < 10 := Nat.mod_lt _ (by decide)
    obtain ⟨d, hd⟩ : ∃ d : Nat, u % 10 = d := ⟨_, rfl⟩
    have hC := one_byte wr d (by omega)
    have hS : ∀ w', (Op.stringOp .add (str [UInt8.ofNat (48 + d)]) (str x)).run Tryd.prog w' = .ok (.string (str (UInt8.ofNat (48 + d) :: x))) w' := fun w' => by
      rw [run_string_add_sum w' _ _ (by rw [str_size, str_size]; simp; omega), str_app]; rfl
    have hS2 : ∀ w', (Op.stringOp .add ⟨#[45]⟩ (str (UInt8.ofNat (48 + d) :: x))).run Tryd.prog w' = .ok (.string (str (45 :: UInt8.ofNat (48 + d) :: x))) w' := fun w' => by
      rw [show (ByteArray.mk #[45]) = str [45] from rfl, run_string_add_sum w' _ _ (by rw [str_size, str_size]; simp; omega), str_app]; rfl
    have hdi : (u : Int) % 10 = d := by omega
    obtain ⟨c, hc⟩ : ∃ c, UInt8.ofNat (48 + d) = c := ⟨_, rfl⟩
    have HC : Hid (UInt8.ofNat (48 + d) = c) := ⟨hc⟩
    rw [hc] at hC
    rw [hc] at hS
    rw [hc] at hS2
    clear hc
    have hq : (u : Int) / 10 = (u / 10 : Nat) := by omega
    by_cases hz : u / 10 = 0
    · have HE : Hid (Lib.decDigits n = c :: x) := ⟨by rw [HD.out, Lib.decDigits, dif_pos (by omega), show u = d by omega, HC.out]; rfl⟩
      have hq : (u : Int) / 10 = 0 := by omega
      rcases Nat.eq_zero_or_pos d with h | h
      · subst h
        rw [show (48 + ((0 : Nat) : Int)) = 48 from rfl] at hC
        have hdi' : (u : Int) % 10 = 0 := hdi
        clear HD hm hd hdi
        go_wp2
        go_ret
        exact ⟨by rw [HE.out]; rfl, BR.alloc BR.size _⟩
      · clear HD hm hd
        go_wp2
        go_ret
        exact ⟨by rw [HE.out]; rfl, BR.alloc BR.size _⟩
    · have HE : Hid (Lib.decDigits n = Lib.decDigits (u / 10) ++ (c :: x)) := ⟨by rw [HD.out, Lib.decDigits, dif_neg (by omega), hd, List.append_assoc, HC.out]; rfl⟩
      have hq2 : (-((u : Int) / 10) == 0) = false := by rw [beq_eq_false_iff_ne]; omega
      clear hS2 hq
      rcases Nat.eq_zero_or_pos d with h | h
      · subst h
        rw [show (48 + ((0 : Nat) : Int)) = 48 from rfl] at hC
        have hdi' : (u : Int) % 10 = 0 := hdi
        clear HD hm hd hdi
        go_wp2
        go_roundw
        case rel => exact ⟨c :: x, u / 10, rfl, by simp, by omega, HE, BR.alloc BR.size _⟩
        case measure => simp [intOf]; omega
      · clear HD hm hd
        go_wp2
        go_roundw
        case rel => exact ⟨c :: x, u / 10, rfl, by simp, by omega, HE, BR.alloc BR.size _⟩
        case measure => simp [intOf]; omega

theorem digits_any (n : Int) (h0 : -9223372036854775808 ≤ n) (h1 : n ≤ 9223372036854775807) (w : World) :
    Calls Tryd.prog 33 #[.int .i64 n] w fun e w' => e = .returned (.string (str (Lib.itoa n))) ∧ Below w.heap.size w w' := by
  unfold Lib.itoa
  by_cases h : n < 0
  · obtain ⟨m, rfl⟩ : ∃ m : Nat, n = -(m : Int) := ⟨n.natAbs, by omega⟩
    rw [if_pos h, show (-(m : Int)).natAbs = m by omega]
    exact digits_neg m (by omega) (by omega) w
  · obtain ⟨m, rfl⟩ : ∃ m : Nat, n = (m : Int) := ⟨n.toNat, by omega⟩
    rw [if_neg h, Int.toNat_natCast]
    exact digits_pos m trivial (by omega) w

end Go.Proofs.YtadmibdcdpggpaaDoor
