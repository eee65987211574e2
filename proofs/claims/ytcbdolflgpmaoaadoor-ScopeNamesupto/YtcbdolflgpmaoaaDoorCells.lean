/- The cells of tokens. -/
import Derived.Test.YtcbdolflgpmaoaaDoorTok
namespace Go.Proofs.YtcbdolflgpmaoaaDoor
open Go.RowKit

def tokC (t : Tok) : List Value := [.int .i64 t.kind, .string (str t.text), .int .i64 t.num, .int .i64 t.at']
def cellsT (ts : List Tok) : List Value := ts.flatMap tokC
theorem cellsT_snoc (ts : List Tok) (t : Tok) : cellsT (ts ++ [t]) = cellsT ts ++ tokC t := by simp [cellsT]

end Go.Proofs.YtcbdolflgpmaoaaDoor
