/- Package heap: maps of places inside the fence; marks that a range leaves; what is set aside, plain. -/
import Derived.Test.YtbdoekffadmejaaGreatDoorHmm
import Derived.RangeFuncLeaves
namespace Go.Proofs.YtbdoekffadmejaaGreatDoor
open Go.RowKit
open Go.Maps (Keyed int_keyed)
set_option linter.unusedVariables false
set_option linter.unusedSimpArgs false
set_option maxRecDepth 100000

/-! ### Maps of places -/
abbrev Wh := Int → Option (Nat × Nat)
def updF (f : Wh) (x : Int) (v : Nat × Nat) : Wh := fun y => if y = x then some v else f y
def delF (f : Wh) (x : Int) : Wh := fun y => if y = x then none else f y
theorem delV_same (f : Lit → Option Value) {x : Lit} (h : WideAt.IsKeyLit x) : Bp.delV f x x = none := by unfold Bp.delV; rw [if_pos (WideAt.sameKey_self h)]
theorem delV_other (f : Lit → Option Value) {x y : Lit} (h : y ≠ x) : Bp.delV f x y = f y := by unfold Bp.delV; rw [if_neg (by rw [Maps.sameKey_ne h]; simp)]
theorem WM.del {w : World} {m n : Nat} {f : Wh} (h : WM w m n f) {x : Int} (hx : isI x) (ty : TypeId) :
    ∃ w', (Builtin.delete_ #[92, 3] ty #[.map (some m), .int .i64 x]).run Tryz.prog w = .ok (.tuple #[]) w' ∧ WM w' m n (delF f x) ∧ w.grownBy w' (some m) := by
  obtain ⟨g, ⟨D, hD, q⟩, r⟩ := h
  obtain ⟨w', hrun, r1, r2⟩ := hD.drop Bp.lawI Tryz.underlying92 (Bp.keyI hx) ty
  have kx := Bp.lawI.key (Bp.keyI hx)
  refine ⟨w', hrun, ⟨Bp.delV g (.int .i64 x), ⟨_, r1, fun y => ?_⟩, fun y => ?_⟩, r2.grown⟩
  · unfold Bp.delV
    by_cases ey : y = .int .i64 x
    · subst ey
      rw [if_pos (WideAt.sameKey_self kx)]
      exact ⟨Maps.has_del_same, fun z => Maps.atKey_del_same z⟩
    · rw [if_neg (by rw [Maps.sameKey_ne ey]; simp)]
      exact ⟨(Maps.has_del_other ey).trans (q y).1, fun z => (Maps.atKey_del_other ey z).trans ((q y).2 z)⟩
  · unfold delF
    by_cases e : y = x
    · subst e; rw [if_pos rfl, delV_same _ kx]; rfl
    · rw [if_neg e, delV_other _ (fun q => e (by simpa using q)), r y]
/-- What a range over a function leaves: marks with nothing in them. -/
theorem leaves_marks {n : Nat} {fn : Func} {tmps : Array Value} {R : Ending → World → Prop} : ∀ (ds : List Nat) (W : World), (∀ D ∈ ds, W.heap[D]? = some (.deferred (some []))) → ds.Nodup →
    (∀ W', W'.os = W.os → W'.tape = W.tape → W'.output = W.output → W'.heap.size = W.heap.size → (∀ k, k ∉ ds → W'.heap[k]? = W.heap[k]?) → ∃ v, (results fn tmps).run Tryz.prog W' = .ok v W' ∧ R (.returned v) W') →
    LeavesInM Fence.wide n Tryz.prog fn tmps R (ds.map fun D => { target := .collected D, args := #[] }) .returning W
  | [], W, _, _, h => h W rfl rfl rfl rfl (fun _ _ => rfl)
  | D :: ds, W, hd, nd, h => by
    have k0 := hd D (by simp)
    have nd' := List.nodup_cons.1 nd
    refine ⟨by simp, .inl ⟨_, _, rfl, run_takeDeferred k0, ?_⟩⟩
    have far : ∀ k, k ≠ D → (W.putObj D (.deferred none)).heap[k]? = W.heap[k]? := fun k hk => World.putObj_heap_other hk
    refine leaves_marks ds _ (fun E hE => (far E (fun e => nd'.1 (by rw [← e]; exact hE))).trans (hd E (by simp [hE]))) nd'.2 (fun W' a b c d e => h W' a b c (by rw [d]; simp [World.putObj]) (fun k hk => ?_))
    have hk1 : k ≠ D := fun e => hk (by simp [e])
    have hk2 : k ∉ ds := fun e => hk (by simp [e])
    exact (e k hk2).trans (far k hk1)
/-- What is set aside of a space: each of its things goes from one map to the other one. -/
def movF (s : Wh × Wh) (x : Int) : Wh × Wh := (delF s.1 x, updF s.2 x ((s.1 x).getD (0, 0)))
def movL (s : Wh × Wh) (l : List (Nat × Nat)) : Wh × Wh := l.foldl (fun s x => movF s x.1) s
theorem movL_snoc (s : Wh × Wh) (l : List (Nat × Nat)) (x : Nat × Nat) : movL s (l ++ [x]) = movF (movL s l) x.1 := by simp [movL]
end Go.Proofs.YtbdoekffadmejaaGreatDoor
