/- What comes at any rate: the law's own example. -/
import Derived.Test.YtmlegdnenklkhaaVbe
namespace Go.Proofs.Ytmlegdnenklkhaa
open Go.RowKit
set_option linter.unusedVariables false
set_option linter.unusedSimpArgs false

abbrev awA : List Atm := [⟨[120], 0⟩, ⟨[121], 0⟩, ⟨[102], 0⟩]
abbrev awE : E := .mk 1 0 [102] 0 awA [] [] []
theorem aw_free : freeF [[120]] awE = [[102], [121]] := by kernel_rfl
theorem aw_ok : okE awE := by
  simp only [awE, okE, okBs, okEs, okAs]
  refine ⟨by decide, ?_, trivial, trivial, trivial⟩
  intro t ht
  simp only [awA, List.mem_cons, List.not_mem_nil, or_false] at ht
  rcases ht with rfl | rfl | rfl <;> decide
abbrev awC : Array Value := #[.string ⟨#[120]⟩, .int .i64 0, .string ⟨#[121]⟩, .int .i64 0, .string ⟨#[102]⟩, .int .i64 0]
theorem aw_is {w : World} {z : Nat} (X : Bx w z awC 56) (hz : z < w.heap.size) : isE w (fun g => g < w.heap.size) awE (exp8 1 0 0 ⟨#[102]⟩ (some ⟨z, 0, none⟩) none none none 3 0 0 0 3 0 0 0).toList := by
  simp only [isE]
  refine ⟨_, _, _, _, [], [], [], rfl, ⟨_, 3, rfl, ⟨by decide, by decide⟩, fun _ => ⟨z, 0, rfl, hz, fun j u hj => ?_⟩⟩, ?_, ?_, ?_, ?_, ?_, ?_⟩
  · rw [Nat.zero_add, X.cell j]
    have : (awC)[j]? = (atmC awA)[j]? := by
      rw [← Array.getElem?_toList]
      rfl
    rw [this]
    exact hj
  · exact ⟨none, 0, rfl, ⟨Nat.le_refl _, by decide⟩, fun q => absurd q (by decide)⟩
  · simp only [isBs]
  · exact ⟨none, 0, rfl, ⟨Nat.le_refl _, by decide⟩, fun q => absurd q (by decide)⟩
  · simp only [isEs]
  · exact ⟨none, 0, rfl, ⟨Nat.le_refl _, by decide⟩, fun q => absurd q (by decide)⟩
  · simp only [isAs]
set_option maxRecDepth 100000 in
set_option maxHeartbeats 8000000 in
theorem awake_any (w : World) : Calls Try.prog 8 #[] w fun e w' => e = .returned (.bool true) ∧ Below w.heap.size w w' := by
  obtain ⟨o1, ho1⟩ : ∃ o, Obj.cells awC 56 = o := ⟨_, rfl⟩
  obtain ⟨o2, ho2⟩ : ∃ o, Obj.cells (exp8 1 0 0 ⟨#[102]⟩ (some ⟨w.heap.size, 0, none⟩) none none none 3 0 0 0 3 0 0 0) 28 = o := ⟨_, rfl⟩
  obtain ⟨o3, ho3⟩ : ∃ o, Obj.cells #[.string ⟨#[120]⟩] 9 = o := ⟨_, rfl⟩
  have K1 := Joins.below_alloc1 w o1
  have K2 : Below w.heap.size w ((w.alloc o1).alloc o2) := K1.alloc K1.size _
  have K3 : Below w.heap.size w (((w.alloc o1).alloc o2).alloc o3) := K2.alloc K2.size _
  have sz : (((w.alloc o1).alloc o2).alloc o3).heap.size = w.heap.size + 3 := by simp
  have X1 : Bx (((w.alloc o1).alloc o2).alloc o3) w.heap.size awC 56 := by
    refine ((Joins.below_alloc1 ((w.alloc o1).alloc o2) o3).block _ (by simp; omega)).trans (((Joins.below_alloc1 (w.alloc o1) o2).block _ (by simp)).trans ?_)
    rw [← ho1]
    exact heap_alloc_new w _
  have X2 : Bx (((w.alloc o1).alloc o2).alloc o3) (w.heap.size + 1) (exp8 1 0 0 ⟨#[102]⟩ (some ⟨w.heap.size, 0, none⟩) none none none 3 0 0 0 3 0 0 0) 28 := by
    refine ((Joins.below_alloc1 ((w.alloc o1).alloc o2) o3).block _ (by simp)).trans ?_
    have := heap_alloc_new (w.alloc o1) o2
    rw [World.size_alloc, ← ho2] at this
    rw [← ho2]
    exact this
  have X3 : Bx (((w.alloc o1).alloc o2).alloc o3) (w.heap.size + 1 + 1) #[.string ⟨#[120]⟩] 9 := by
    have := heap_alloc_new ((w.alloc o1).alloc o2) o3
    rw [World.size_alloc, World.size_alloc, ← ho3] at this
    rw [← ho3]
    exact this
  have R3 : IsRow (((w.alloc o1).alloc o2).alloc o3) (fun g => g < (((w.alloc o1).alloc o2).alloc o3).heap.size) (strC [[120]]) [([120] : Nm)].length (.slice (some ⟨w.heap.size + 1 + 1, 0, none⟩) 1 1) := by
    refine ⟨_, 1, rfl, ⟨by decide, by decide⟩, fun _ => ⟨w.heap.size + 1 + 1, 0, rfl, by omega, fun j u hj => ?_⟩⟩
    rw [Nat.zero_add, X3.cell j]
    rw [← Array.getElem?_toList]
    exact hj
  have C := free_any [[120]] awE _ _ _ R3 (aw_is X1 (by omega)) aw_ok (fun s hs => by rw [List.mem_singleton] at hs; rw [hs]; decide) (by decide)
  rw [aw_free] at C
  have HC2 := Hid.mk (fun (W : World) => class_any (w := W) none 0 0 1 0 0 ⟨#[102]⟩ (some ⟨w.heap.size, 0, none⟩) none none none 3 0 0 0 3 0 0 0 0 ⟨#[]⟩ 0 0 ⟨#[]⟩ [] 0 [] 0 (fun h => absurd h (by decide)) (fun h => absurd h (by decide)) (by decide) (by decide))
  have e1 : classI 0 1 (picks 0 1 0 0 0 0 0 [] 0 [] 0) = 6 := by decide
  rw [e1] at HC2
  have HK3 := Hid.mk K3
  have HX2 := Hid.mk X2
  have HSZ := Hid.mk sz
  have y0 := X2.cell 0
  have y1 := X2.cell 1
  have y2 := X2.cell 2
  have y3 := X2.cell 3
  have y4 := X2.cell 4
  have y5 := X2.cell 5
  have y6 := X2.cell 6
  have y7 := X2.cell 7
  have HB := Hid.mk (fun (W : World) (b : Below (((w.alloc o1).alloc o2).alloc o3).heap.size (((w.alloc o1).alloc o2).alloc o3) W) => show Below w.heap.size w W from K3.trans (Joins.below_le b K3.size))
  have HL := Hid.mk (fun (W : World) (b : Below (((w.alloc o1).alloc o2).alloc o3).heap.size (((w.alloc o1).alloc o2).alloc o3) W) => X2.later b)
  clear K1 K2 K3 sz X1 X2 X3 R3 e1
  subst ho1 ho2 ho3
  go_enter Try.func8, Try.ntmps8
  go_wp2_with (first
    | (go_at_call 9; have zz := HB7; refine (HC2.out _).mono ?_; rintro e w8 ⟨rfl, B8⟩; have HB8 := Hid.mk (HB7.out.trans (Joins.below_le B8 HB7.out.size)); clear B8)
    | (go_at_call 11; refine C.mono ?_; rintro e w7 ⟨r, rfl, B7, R7, _⟩; obtain ⟨gr, cr, rfl, hcr, hr⟩ := R7; obtain ⟨B, O, rfl, _, hx⟩ := hr (by decide); have l0 : w7.cell? ⟨B, O, none⟩ = some (.string ⟨#[102]⟩) := hx 0 _ rfl; have l1 : w7.cell? ⟨B, O + 1, none⟩ = some (.string ⟨#[121]⟩) := hx 1 _ rfl; have HB7 := Hid.mk (HB.out w7 B7); have x0 := (HL.out w7 B7).cell 0; have x1 := (HL.out w7 B7).cell 1; have x2 := (HL.out w7 B7).cell 2; have x3 := (HL.out w7 B7).cell 3; have x4 := (HL.out w7 B7).cell 4; have x5 := (HL.out w7 B7).cell 5; have x6 := (HL.out w7 B7).cell 6; have x7 := (HL.out w7 B7).cell 7; simp only [List.length_cons, List.length_nil, Nat.zero_add, Nat.reduceAdd] at hcr ⊢; clear hx hr B7))
  go_ret
  exact ⟨rfl, HB8.out⟩
end Go.Proofs.Ytmlegdnenklkhaa
