/- The document's product by doubling. -/
import Derived.Test.YtfopbakhbobgjaaDoorSmall
namespace Go.Proofs.YtfopbakhbobgjaaDoor
open Go.RowKit
set_option linter.unusedVariables false

def intOf : Value → Int | .int _ n => n | _ => 0
theorem odd_step (n a b V : Int) (hb : 0 ≤ b) (o : b % 2 = 1) (h : (n + a * b) % 18446744073709551616 = V) :
    ((n + a) % 18446744073709551616 + ((a + a) % 18446744073709551616) * (b / 2)) % 18446744073709551616 = V := by
  subst h
  have e : b = 2 * (b / 2) + 1 := by omega
  generalize b / 2 = q at e ⊢
  subst e
  rw [Int.add_emod, Int.mul_emod, Int.emod_emod_of_dvd _ (Int.dvd_refl _), Int.emod_emod_of_dvd _ (Int.dvd_refl _), ← Int.mul_emod, ← Int.add_emod]
  congr 1
  rw [Int.mul_add, Int.add_mul, ← Int.mul_assoc, Int.mul_comm a 2, Int.mul_assoc]
  omega
theorem even_step (n a b V : Int) (hb : 0 ≤ b) (o : b % 2 = 0) (h : (n + a * b) % 18446744073709551616 = V) :
    (n + ((a + a) % 18446744073709551616) * (b / 2)) % 18446744073709551616 = V := by
  subst h
  have e : b = 2 * (b / 2) := by omega
  generalize b / 2 = q at e ⊢
  subst e
  rw [Int.add_emod, Int.mul_emod, Int.emod_emod_of_dvd _ (Int.dvd_refl _), ← Int.mul_emod, ← Int.add_emod]
  congr 1
  rw [Int.add_mul, ← Int.mul_assoc, Int.mul_comm a 2, Int.mul_assoc]
  omega

set_option maxHeartbeats 1000000 in
theorem product_any (x y : Int) (w : World) (hx : 0 ≤ x ∧ x ≤ 18446744073709551615) (hy : 0 ≤ y ∧ y ≤ 18446744073709551615) :
    Calls Tryd.prog 23 #[.int .u64 x, .int .u64 y] w fun e w' => e = .returned (.int .u64 ((x * y) % 18446744073709551616)) ∧ w' = w := by
  obtain ⟨V, hV⟩ : ∃ V, (x * y) % 18446744073709551616 = V := ⟨_, rfl⟩
  have HV : Hd ((0 + x * y) % 18446744073709551616 = V) := ⟨by rw [Int.zero_add]; exact hV⟩
  rw [hV]
  clear hV
  go_enter Tryd.func23, Tryd.ntmps23
  go_wp2
  go_loopw [0, 1, 5] (fun av bv nv wr => ∃ a b n : Int, av = .int .u64 a ∧ bv = .int .u64 b ∧ nv = .int .u64 n ∧ (0 ≤ a ∧ a ≤ 18446744073709551615) ∧ (0 ≤ b ∧ b ≤ 18446744073709551615) ∧ (0 ≤ n ∧ n ≤ 18446744073709551615) ∧ Hd ((n + a * b) % 18446744073709551616 = V) ∧ w = wr) (fun _ bv _ _ => (intOf bv).toNat)
  case atStart => exact ⟨x, y, 0, rfl, rfl, rfl, hx, hy, ⟨by omega, by omega⟩, HV, rfl⟩
  case round =>
    obtain ⟨a, b, n, rfl, rfl, rfl, ha, hb, hn, HE, rfl⟩ := hrel
    by_cases z : 0 < b
    · by_cases o : b % 2 = 1
      · have HS := odd_step n a b V hb.1 o HE.out
        have HS' : Hd (((n + a) % 18446744073709551616 + ((a + a) % 18446744073709551616) * (b / 2)) % 18446744073709551616 = V) := ⟨HS⟩
        clear HS HE
        have o' : (b % 2 == 1) = true := by simp [o]
        go_wp2
        refine ⟨⟨_, _, _, rfl, rfl, rfl, ?_, ⟨by omega, by omega⟩, ?_, ?_, trivial⟩, by simp only [intOf]; omega⟩
        · rw [IntKind.wrap_u64]; omega
        · rw [IntKind.wrap_u64]; omega
        · rw [IntKind.wrap_u64, IntKind.wrap_u64]; exact HS'
      · have o2 : b % 2 = 0 := by omega
        have HS := even_step n a b V hb.1 o2 HE.out
        have HS' : Hd ((n + ((a + a) % 18446744073709551616) * (b / 2)) % 18446744073709551616 = V) := ⟨HS⟩
        clear HS HE
        have o' : (b % 2 == 1) = false := by simp [o]
        go_wp2
        refine ⟨⟨_, _, _, rfl, rfl, rfl, ?_, ⟨by omega, by omega⟩, hn, ?_, trivial⟩, by simp only [intOf]; omega⟩
        · rw [IntKind.wrap_u64]; omega
        · rw [IntKind.wrap_u64]; exact HS'
    · obtain rfl : b = 0 := by omega
      have := HE.out
      go_wp2
      go_ret
      exact ⟨retInt (by omega), rfl⟩
end Go.Proofs.YtfopbakhbobgjaaDoor
