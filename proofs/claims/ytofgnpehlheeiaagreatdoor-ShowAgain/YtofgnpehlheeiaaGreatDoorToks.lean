/- Tokens in memory, whatever their fields. -/
import Derived.Test.YtofgnpehlheeiaaGreatDoorTok
import Derived.Test.YtofgnpehlheeiaaGreatDoorBack
namespace Go.Proofs.YtofgnpehlheeiaaGreatDoor
open Go.RowKit
set_option linter.unusedVariables false

def In64 (a : Int) : Prop := -9223372036854775808 ≤ a ∧ a ≤ 9223372036854775807

/-- Tokens that came in lie in memory from a place on; their numbers are of 64 bits, their texts not too long for a machine. -/
def LiesA (w : World) (g off : Nat) (ts : List ATok) : Prop := ∀ (i : Nat) (h : i < ts.length),
  w.cell? ⟨g, off + i * 4, none⟩ = some (.int .i64 (ts[i]'h).kind) ∧ w.cell? ⟨g, off + i * 4 + 1, none⟩ = some (.string (str (ts[i]'h).text)) ∧
  w.cell? ⟨g, off + i * 4 + 2, none⟩ = some (.int .i64 (ts[i]'h).num) ∧ w.cell? ⟨g, off + i * 4 + 3, none⟩ = some (.int .i64 (ts[i]'h).at')
def Fit (t : ATok) : Prop := In64 t.kind ∧ In64 t.num ∧ t.text.length ≤ 140737488351232
/-- What the walk is told of a slice of tokens that came in. -/
def IsToks (w : World) (a : Option Addr) (ts : List ATok) : Prop := (0 < ts.length → ∃ g off, a = some ⟨g, off, none⟩ ∧ LiesA w g off ts) ∧ ∀ t ∈ ts, Fit t
theorem LiesA.later {w w' : World} {g off : Nat} {ts : List ATok} (h : LiesA w g off ts) (hb : Below w.heap.size w w') : LiesA w' g off ts := fun i hi => by
  obtain ⟨a, b, c, d⟩ := h i hi
  exact ⟨(hb.cell (World.block_lt_of_cell? _ _ a)).trans a, (hb.cell (World.block_lt_of_cell? _ _ b)).trans b, (hb.cell (World.block_lt_of_cell? _ _ c)).trans c, (hb.cell (World.block_lt_of_cell? _ _ d)).trans d⟩
theorem IsToks.later {w w' : World} {a : Option Addr} {ts : List ATok} (h : IsToks w a ts) (hb : Below w.heap.size w w') : IsToks w' a ts :=
  ⟨fun q => by obtain ⟨g, off, e, l⟩ := h.1 q; exact ⟨g, off, e, l.later hb⟩, h.2⟩


end Go.Proofs.YtofgnpehlheeiaaGreatDoor
