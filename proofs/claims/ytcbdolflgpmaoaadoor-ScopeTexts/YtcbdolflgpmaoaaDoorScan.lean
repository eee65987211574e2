/- Just one token; Word. -/
import Derived.Test.YtcbdolflgpmaoaaDoorReads
import Derived.Test.YtcbdolflgpmaoaaDoorBack
import Derived.Test.YtcbdolflgpmaoaaDoorTreeGood
import Derived.Deep.AppendLies
import Derived.OwnWalk
import Derived.Test.YtcbdolflgpmaoaaDoorRdr
namespace Go.Proofs.YtcbdolflgpmaoaaDoor
open Go.RowKit
set_option linter.unusedVariables false

end Go.Proofs.YtcbdolflgpmaoaaDoor


/- Package lex's Scan. -/
namespace Go.Proofs.YtcbdolflgpmaoaaDoor
open Go.RowKit
set_option linter.unusedVariables false

theorem info38 : (Tryd.prog.info? 70).map (fun i => (i.zero, i.size, i.bytes)) = some (some (.agg #[.int .i64 0, .string ⟨#[]⟩, .int .i64 0, .int .i64 0]), 4, 40) := by kernel_rfl
/-- What Scan answers. -/
def scanL : Except (Nat × Int) (List Tok) → List Tok
  | .ok ts => ts
  | .error _ => []
def scanA : Except (Nat × Int) (List Tok) → Int
  | .ok _ => 0
  | .error e => e.1
def scanE : Except (Nat × Int) (List Tok) → Int
  | .ok _ => 0
  | .error e => e.2
def Row (w : World) (base : Nat) (v : Value) (ts : List Tok) : Prop := w.ownsRow base 70 4 v ts.length (cellsT ts)
theorem Row.later {w w' : World} {base : Nat} {v : Value} {ts : List Tok} (h : Row w base v ts) (hb : Below w.heap.size w w') : Row w' base v ts :=
  World.ownsRow.kept (row := none) h ⟨hb.os, hb.tape, hb.output, hb.size, fun k hk _ => hb.block k hk⟩ (by cases v.ownBlock <;> simp)
theorem Row.nil (w : World) (base : Nat) : Row w base (.slice none 0 0) [] := World.ownsRow_nil _ _ _ _
theorem ahead_err (ts : List Tok) (e) : ahead ts (.error e) = .error e := rfl
theorem ahead_end (ts : List Tok) : ahead ts (.ok []) = .ok ts := by simp [ahead]

/-- What the append leaves. -/
theorem row_more {w W w1 : World} {v v' : Value} {ts : List Tok} {t : Tok} (hB : Below w.heap.size w W) (h : Row W w.heap.size v ts)
    (hown : w1.ownsRow w.heap.size 70 4 v' (ts.length + 1) (cellsT ts ++ tokC t)) (hg : W.grownBy w1 v.ownBlock) : Row w1 w.heap.size v' (ts ++ [t]) ∧ Below w.heap.size w w1 := by
  refine ⟨?_, hB.grown hg hB.size (fun j hj => (h.lt j hj).1)⟩
  unfold Row
  rw [cellsT_snoc, List.length_append]
  exact hown
theorem news4 {W : World} {g : Nat} {k : Int} {t : ByteArray} {n a : Int} {ty : TypeId} (h : W.heap[g]? = some (.cells #[.int .i64 k, .string t, .int .i64 n, .int .i64 a] ty (0, 0))) :
    ∀ j u, [Value.int .i64 k, .string t, .int .i64 n, .int .i64 a][j]? = some u → W.cell? ((⟨g, 0, none⟩ : Addr).add j) = some u := World.news_of_block h

theorem new2 (w : World) (o o' : Obj) : ((w.alloc o).alloc o').heap[w.heap.size + 1]? = some o' := by have := heap_alloc_new (w.alloc o) o'; simpa using this
theorem below2_of {w w' : World} (h : Below w.heap.size w w') (o o' : Obj) : Below w.heap.size w ((w'.alloc o).alloc o') := (h.alloc h.size o).alloc (by have := h.size; simp; omega) o'
end Go.Proofs.YtcbdolflgpmaoaaDoor

