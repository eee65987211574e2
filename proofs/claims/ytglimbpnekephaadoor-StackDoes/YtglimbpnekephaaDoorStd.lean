/- A word of a stack is set and told; a frame's size and its last word. -/
import Derived.Test.YtglimbpnekephaaDoorStc
import Derived.Deep.RegionHeld3
import Derived.Laws.BitsAllLaws
namespace Go.Proofs.YtglimbpnekephaaDoor
open Go.RowKit
set_option linter.unusedVariables false
set_option linter.unusedSimpArgs false

theorem wrapI {x : Int} (h1 : -9223372036854775808 ≤ x) (h2 : x ≤ 9223372036854775807) : IntKind.i64.wrap x = x := by rw [IntKind.wrap_i64]; omega
theorem grown_drew {w w' : World} {r : Option Nat} (G : w.drew.grownBy w' r) : w.grownBy w' r := ⟨G.os, G.tape, G.output, G.size, fun k hk hr => G.block k hk hr⟩
/-- a word of the stack is set -/
theorem set_any {w : World} {p a b F N u c k : Nat} {ws : List Int} (h : Stk w p a b ws F N u c k) (i : Nat) (v : Int) (hi : i < N) :
    Calls Tryd.prog 43 #[.pointer (some ⟨p, 0, none⟩), .int .i64 i, .int .u64 v] w fun e w' => (∃ x, e = .returned x) ∧ Stk w' p a b (ws.set (F + i) v) F N u c k ∧ w.grownBy w' (some b) := by
  have c0 := h.c0
  have c1 := h.c1
  have fit := h.fit
  have l := h.ar.len
  have WA := write_any (h.ar.later (below_drew w)) (F + i) v (by omega)
  have HS := Hid.mk (h.later (below_drew w))
  have kw : IntKind.i64.wrap ((F : Int) + i) = ((F + i : Nat) : Int) := by rw [wrapI (by omega) (by omega)]; omega
  clear h
  go_enter Tryd.func43, Tryd.ntmps43
  go_region_held3 (fun w' => w'.cell? ⟨p, 0, none⟩ = some (.pointer (some ⟨a, 0, none⟩)) ∧ w'.cell? ⟨p, 1, none⟩ = some (.int .i64 F)) (go_keep) (first
    | (go_at_call 17; refine WA.mono ?_; rintro e w' ⟨rfl, H', G⟩; have S' := HS.out.wrote H' G (by simp); have s0 := S'.c0; have s1 := S'.c1))
  all_goals go_wp2
  all_goals go_end0
  all_goals exact ⟨⟨_, rfl⟩, S', grown_drew G⟩
theorem below_drewN {w w1 : World} (B : Below w.heap.size w w1) (n : Nat) : Below w.heap.size w (w1.drewN n) := B.trans ⟨rfl, rfl, rfl, Nat.le_refl _, fun _ _ => rfl⟩
/-- what a reader of a stack's words has at hand -/
structure RdA (w : World) (p a b F : Nat) (ws us : List Int) : Prop where
  c0 : w.cell? ⟨p, 0, none⟩ = some (.pointer (some ⟨a, 0, none⟩))
  c1 : w.cell? ⟨p, 1, none⟩ = some (.int .i64 F)
  ar : Has w a b ws
  fit : F + us.length ≤ ws.length
  eq : ∀ i, i < us.length → ws.getD (F + i) 0 = us.getD i 0
theorem RdA.lt {w : World} {p a b F : Nat} {ws us : List Int} (h : RdA w p a b F ws us) : p < w.heap.size ∧ a < w.heap.size ∧ b < w.heap.size := ⟨World.block_lt_of_cell? _ _ h.c0, h.ar.lt⟩
theorem RdA.same {w w' : World} {p a b F : Nat} {ws us : List Int} (h : RdA w p a b F ws us) (h1 : w'.heap[p]? = w.heap[p]?) (h2 : w'.heap[a]? = w.heap[a]?) (h3 : w'.heap[b]? = w.heap[b]?) : RdA w' p a b F ws us :=
  ⟨(World.cell?_of_block (w := w) (a := ⟨p, 0, none⟩) h1).trans h.c0, (World.cell?_of_block (w := w) (a := ⟨p, 1, none⟩) h1).trans h.c1, h.ar.same h2 h3, h.fit, h.eq⟩
theorem RdA.later {w w' : World} {p a b F : Nat} {ws us : List Int} (h : RdA w p a b F ws us) (hb : Below w.heap.size w w') : RdA w' p a b F ws us :=
  h.same (hb.block _ h.lt.1) (hb.block _ h.lt.2.1) (hb.block _ h.lt.2.2)
/-- a word of the stack is told -/
theorem word_any {w : World} {p a b F : Nat} {ws us : List Int} (h : RdA w p a b F ws us) (i : Nat) (hi : i < us.length) :
    Calls Tryd.prog 45 #[.pointer (some ⟨p, 0, none⟩), .int .i64 i] w fun e w' => e = .returned (.int .u64 (us.getD i 0)) ∧ Below w.heap.size w w' := by
  have c0 := h.c0
  have c1 := h.c1
  have fit := h.fit
  have l := h.ar.len
  have RA := fun W (B : Below w.heap.size w W) => read_any (h.ar.later B) (F + i) (by omega)
  rw [h.eq i hi] at RA
  generalize us.getD i 0 = x at *
  have kw : IntKind.i64.wrap ((F : Int) + i) = ((F + i : Nat) : Int) := by rw [wrapI (by omega) (by omega)]; omega
  go_enter Tryd.func45, Tryd.ntmps45
  go_wp2
  go_region_held3 (fun w' => w'.cell? ⟨p, 0, none⟩ = some (.pointer (some ⟨a, 0, none⟩)) ∧ w'.cell? ⟨p, 1, none⟩ = some (.int .i64 F)) (go_keep) (first
    | (go_at_call 21; refine (RA _ (below_drew w)).mono ?_; rintro e w' ⟨rfl, rfl⟩))
  all_goals go_wp2
  all_goals go_ret
  all_goals exact ⟨rfl, below_drew w⟩
/-- a reader of words that were copied -/
structure RdB (w : World) (z g : Nat) (cap : Nat) (us : List Int) : Prop where
  c0 : w.cell? ⟨z, 0, none⟩ = some (.slice (some ⟨g, 0, none⟩) us.length cap)
  cap : us.length ≤ cap
  len : us.length ≤ 524288
  num : ∀ i, i < us.length → w.cell? ⟨g, i, none⟩ = some (.int .u64 (us.getD i 0))
  gl : g < w.heap.size
theorem RdB.lt {w : World} {z g cap : Nat} {us : List Int} (h : RdB w z g cap us) : z < w.heap.size ∧ g < w.heap.size := ⟨World.block_lt_of_cell? _ _ h.c0, h.gl⟩
theorem RdB.same {w w' : World} {z g cap : Nat} {us : List Int} (h : RdB w z g cap us) (h1 : w'.heap[z]? = w.heap[z]?) (h2 : w'.heap[g]? = w.heap[g]?) : RdB w' z g cap us :=
  ⟨(World.cell?_of_block (w := w) (a := ⟨z, 0, none⟩) h1).trans h.c0, h.cap, h.len, fun i hi => (World.cell?_of_block (w := w) (a := ⟨g, i, none⟩) h2).trans (h.num i hi), by
    have := h.gl
    have e : w'.heap[g]?.isSome := by rw [h2]; simp [this]
    simpa using e⟩
theorem RdB.later {w w' : World} {z g cap : Nat} {us : List Int} (h : RdB w z g cap us) (hb : Below w.heap.size w w') : RdB w' z g cap us :=
  h.same (hb.block _ h.lt.1) (hb.block _ h.lt.2)
theorem inrow_any {w : World} {z g cap : Nat} {us : List Int} (h : RdB w z g cap us) (i : Nat) (hi : i < us.length) :
    Calls Tryd.prog 59 #[.int .i64 i, .pointer (some ⟨z, 0, none⟩)] w fun e w' => e = .returned (.int .u64 (us.getD i 0)) ∧ Below w.heap.size w w' := by
  have c0 := h.c0
  have c1 := h.num i hi
  have h1 := h.cap
  have h2 := h.len
  generalize us.getD i 0 = x at *
  go_enter Tryd.func59, Tryd.ntmps59
  go_wp2
  go_ret
  exact ⟨rfl, Below.refl _ _⟩

/-! ## A frame's words -/
def last (f : Fr) : Int := f.k + f.b * 16 + (f.ps.length : Int) * 256 + f.a * 16777216
theorem orJoin (i : Nat) (a b : Int) (ha0 : 0 ≤ a) (ha : a < 2 ^ i) (hb0 : 0 ≤ b) (hb : b < 18446744073709551616) (hi : (2 : Int) ^ i ≤ 18446744073709551616) (hd : b % 2 ^ i = 0) : bits .or .u64 a b = a + b := by
  obtain ⟨x, rfl⟩ := Int.eq_ofNat_of_zero_le ha0
  obtain ⟨y, rfl⟩ := Int.eq_ofNat_of_zero_le hb0
  have e : ((2 ^ i : Nat) : Int) = (2 : Int) ^ i := by simp
  have hx : x < 2 ^ i := by have := ha; rw [← e] at this; exact_mod_cast this
  have hy : y % 2 ^ i = 0 := by have := hd; rw [← e] at this; exact_mod_cast this
  rw [u64_or_nat x y (by omega) (by omega), Nat.or_comm, nat_join i y x hy hx]
  omega
theorem size_any (f : Fr) (o : Option Addr) (cap : Nat) (w : World) (hn : f.ps.length ≤ 17592186044416) :
    Calls Tryd.prog 42 #[fv f o cap] w fun e w' => e = .returned (.int .i64 (f.ps.length + 1 : Nat)) ∧ Below w.heap.size w w' := by
  unfold fv
  obtain ⟨fk, fa, fb, ps⟩ := f
  dsimp only at *
  generalize ps.length = n at *
  go_enter Tryd.func42, Tryd.ntmps42
  go_wp2
  go_ret
  exact ⟨retInt (by omega), by go_grown⟩
theorem lastWord_any (f : Fr) (o : Option Addr) (cap : Nat) (w : World) (h : Okf f) :
    Calls Tryd.prog 44 #[fv f o cap] w fun e w' => e = .returned (.int .u64 (last f)) ∧ Below w.heap.size w w' := by
  unfold fv last
  obtain ⟨fk, fa, fb, ps⟩ := f
  have h1 := h.k
  have h2 := h.a
  have h3 := h.b
  have h4 := h.n
  clear h
  dsimp only at *
  generalize ps.length = n at *
  have e1 : bits .or .u64 fk (fb * 16) = fk + fb * 16 := orJoin 4 _ _ (by omega) (by simp; omega) (by omega) (by omega) (by decide) (by simp)
  have e2 : bits .or .u64 (fk + fb * 16) ((n : Int) * 256) = fk + fb * 16 + (n : Int) * 256 := orJoin 8 _ _ (by omega) (by simp; omega) (by omega) (by omega) (by decide) (by simp)
  have e3 : bits .or .u64 (fk + fb * 16 + (n : Int) * 256) (fa * 16777216) = fk + fb * 16 + (n : Int) * 256 + fa * 16777216 := orJoin 24 _ _ (by omega) (by simp; omega) (by omega) (by omega) (by decide) (by simp)
  go_enter Tryd.func44, Tryd.ntmps44
  go_wp2
  go_ret
  exact ⟨rfl, by go_grown⟩
/-- how many pointers a last word tells -/
theorem pointers_any (f : Fr) (w : World) (h : Okf f) :
    Calls Tryd.prog 57 #[.int .u64 (last f)] w fun e w' => e = .returned (.int .i64 f.ps.length) ∧ w' = w := by
  have h1 := h.k
  have h2 := h.a
  have h3 := h.b
  have h4 := h.n
  have hl : 0 ≤ last f ∧ last f ≤ 18446744073709551615 := by unfold last; omega
  have m : bits .and .u64 (last f / 256) 65535 = f.ps.length := by
    rw [u64_and _ _ (by omega) (by omega) (by omega) (by omega), show (65535 : Int).toNat = 65535 from rfl, show (65535 : Nat) = 2 ^ 16 - 1 from rfl, Nat.and_two_pow_sub_one_eq_mod]
    unfold last at *
    omega
  generalize last f = x at *
  generalize f.ps.length = n at *
  clear h
  go_enter Tryd.func57, Tryd.ntmps57
  go_wp2
  go_ret
  exact ⟨rfl, rfl⟩
end Go.Proofs.YtglimbpnekephaaDoor
