/- A header in four cells of a block, and that it stays there while nothing old is written. -/
import Derived.Test.YtecomopllkjfbaaDoorPack
namespace Go.Proofs.YtecomopllkjfbaaDoor
open Go.RowKit

structure HeadAt (w : World) (b : Nat) (k i p n : Int) : Prop where
  c0 : w.cell? ⟨b, 0, none⟩ = some (.int .i64 k)
  c1 : w.cell? ⟨b, 1, none⟩ = some (.int .i64 i)
  c2 : w.cell? ⟨b, 2, none⟩ = some (.int .i64 p)
  c3 : w.cell? ⟨b, 3, none⟩ = some (.int .i64 n)
theorem HeadAt.fresh (w : World) (k i p n : Int) : HeadAt (w.alloc (Obj.cells #[Value.int IntKind.i64 k, Value.int IntKind.i64 i, Value.int IntKind.i64 p, Value.int IntKind.i64 n] 23)) w.heap.size k i p n :=
  ⟨by simp [go_sem], by simp [go_sem], by simp [go_sem], by simp [go_sem]⟩
theorem HeadAt.later {w w' : World} {b : Nat} {k i p n : Int} (h : HeadAt w b k i p n) (hb : Below w.heap.size w w') : HeadAt w' b k i p n := by
  have z : b < w.heap.size := World.block_lt_of_cell? _ _ h.c0
  have e : ∀ o, w'.cell? ⟨b, o, none⟩ = w.cell? ⟨b, o, none⟩ := fun o => hb.cell (p := ⟨b, o, none⟩) z
  exact ⟨(e _).trans h.c0, (e _).trans h.c1, (e _).trans h.c2, (e _).trans h.c3⟩
end Go.Proofs.YtecomopllkjfbaaDoor
