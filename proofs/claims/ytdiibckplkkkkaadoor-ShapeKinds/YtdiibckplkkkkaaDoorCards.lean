/-
  DERIVED. GIVEN WITH THE SEED: THE CARDS: each row of YtdiibckplkkkkaaDoorRows.lean that lists a variable, with what it lists TIED to the program's text (the seventh form; the later family's looks); each row that meets fmt, with fmt's text TOLD by the authors' own Lean function (tested against real Go, not proved from fmt's source: count such statements apart). THE CARD IS WHAT COUNTS. Prove the row's statement (the work); the ties are given (YtdiibckplkkkkaaDoorTie.lean); close each card by the builder's one call (the guide's Derived/Test/ToyasCard.lean, 'card_holds'). Laid BY PROGRAM, IN A SANDBOX (cutbox-door.mjs). By AI agents, Wed Nov 11 2026. No macro, syntax, notation, axiom, sorry.
-/
import Derived.Test.YtdiibckplkkkkaaDoorRows
import GoSem.ClaimSeven
namespace Go.Proofs.YtdiibckplkkkkaaDoor
namespace Rows

/-- THE TIED CARD OF 'middenlaw04.ShapeRight'. -/
def shapeRightCard : Claim7 := { stood := { row := shapeRightRow, standIns := [], harness := (true, "8720be965b307debb93169d314190e85b48e0ce61bbbd6f7fbb98ed8ab0ed2da"), looks := false }, kinds := [], alts := [], laidByText := true, laidKinds := [.data], laidTests := true, laidLooks := .later }
def ShapeRightCardSaid : Prop := Claim7.holds Tryd.pinned (.plain (OpenSpec.ofChange shapeRightSpec)) shapeRightCard

/-- THE TIED CARD OF 'middenlaw04.ShapeKinds'. -/
def shapeKindsCard : Claim7 := { stood := { row := shapeKindsRow, standIns := [], harness := (true, "8720be965b307debb93169d314190e85b48e0ce61bbbd6f7fbb98ed8ab0ed2da"), looks := false }, kinds := [], alts := [], laidByText := true, laidKinds := [.data], laidTests := true, laidLooks := .later }
def ShapeKindsCardSaid : Prop := Claim7.holds Tryd.pinned (.plain (OpenSpec.ofChange shapeKindsSpec)) shapeKindsCard

/-- THE TIED CARD OF 'middenlaw04.ShapeOver'. -/
def shapeOverCard : Claim7 := { stood := { row := shapeOverRow, standIns := [], harness := (true, "8720be965b307debb93169d314190e85b48e0ce61bbbd6f7fbb98ed8ab0ed2da"), looks := false }, kinds := [], alts := [], laidByText := true, laidKinds := [.data], laidTests := true, laidLooks := .later }
def ShapeOverCardSaid : Prop := Claim7.holds Tryd.pinned (.plain (OpenSpec.ofChange shapeOverSpec)) shapeOverCard

/-- THE TIED CARD OF 'middenlaw04.ShapeStays'. -/
def shapeStaysCard : Claim7 := { stood := { row := shapeStaysRow, standIns := [], harness := (true, "8720be965b307debb93169d314190e85b48e0ce61bbbd6f7fbb98ed8ab0ed2da"), looks := false }, kinds := [], alts := [], laidByText := true, laidKinds := [.data], laidTests := true, laidLooks := .later }
def ShapeStaysCardSaid : Prop := Claim7.holds Tryd.pinned (.plain (OpenSpec.ofChange shapeStaysSpec)) shapeStaysCard

/-- THE TIED CARD OF 'middenlaw04.ShapePointers'. -/
def shapePointersCard : Claim7 := { stood := { row := shapePointersRow, standIns := [], harness := (true, "8720be965b307debb93169d314190e85b48e0ce61bbbd6f7fbb98ed8ab0ed2da"), looks := false }, kinds := [], alts := [], laidByText := true, laidKinds := [.data], laidTests := true, laidLooks := .later }
def ShapePointersCardSaid : Prop := Claim7.holds Tryd.pinned (.plain (OpenSpec.ofChange shapePointersSpec)) shapePointersCard

/-- THE SECOND FORM's CARD OF 'middenlaw04.ShapeRight'. -/
def shapeRightUptoCard : Claim7 := { stood := { row := shapeRightUptoRow, standIns := [], harness := (true, "8720be965b307debb93169d314190e85b48e0ce61bbbd6f7fbb98ed8ab0ed2da"), looks := false }, kinds := [], alts := [], laidByText := true, laidKinds := [.data], laidTests := true, laidLooks := .later }
def ShapeRightUptoCardSaid : Prop := Claim7.holds Tryd.pinned (.plain (OpenSpec.upto shapeRightSpec)) shapeRightUptoCard

/-- THE SECOND FORM's CARD OF 'middenlaw04.ShapeKinds'. -/
def shapeKindsUptoCard : Claim7 := { stood := { row := shapeKindsUptoRow, standIns := [], harness := (true, "8720be965b307debb93169d314190e85b48e0ce61bbbd6f7fbb98ed8ab0ed2da"), looks := false }, kinds := [], alts := [], laidByText := true, laidKinds := [.data], laidTests := true, laidLooks := .later }
def ShapeKindsUptoCardSaid : Prop := Claim7.holds Tryd.pinned (.plain (OpenSpec.upto shapeKindsSpec)) shapeKindsUptoCard

/-- THE SECOND FORM's CARD OF 'middenlaw04.ShapeOver'. -/
def shapeOverUptoCard : Claim7 := { stood := { row := shapeOverUptoRow, standIns := [], harness := (true, "8720be965b307debb93169d314190e85b48e0ce61bbbd6f7fbb98ed8ab0ed2da"), looks := false }, kinds := [], alts := [], laidByText := true, laidKinds := [.data], laidTests := true, laidLooks := .later }
def ShapeOverUptoCardSaid : Prop := Claim7.holds Tryd.pinned (.plain (OpenSpec.upto shapeOverSpec)) shapeOverUptoCard

/-- THE SECOND FORM's CARD OF 'middenlaw04.ShapeStays'. -/
def shapeStaysUptoCard : Claim7 := { stood := { row := shapeStaysUptoRow, standIns := [], harness := (true, "8720be965b307debb93169d314190e85b48e0ce61bbbd6f7fbb98ed8ab0ed2da"), looks := false }, kinds := [], alts := [], laidByText := true, laidKinds := [.data], laidTests := true, laidLooks := .later }
def ShapeStaysUptoCardSaid : Prop := Claim7.holds Tryd.pinned (.plain (OpenSpec.upto shapeStaysSpec)) shapeStaysUptoCard

/-- THE SECOND FORM's CARD OF 'middenlaw04.ShapePointers'. -/
def shapePointersUptoCard : Claim7 := { stood := { row := shapePointersUptoRow, standIns := [], harness := (true, "8720be965b307debb93169d314190e85b48e0ce61bbbd6f7fbb98ed8ab0ed2da"), looks := false }, kinds := [], alts := [], laidByText := true, laidKinds := [.data], laidTests := true, laidLooks := .later }
def ShapePointersUptoCardSaid : Prop := Claim7.holds Tryd.pinned (.plain (OpenSpec.upto shapePointersSpec)) shapePointersUptoCard
end Rows
end Go.Proofs.YtdiibckplkkkkaaDoor
