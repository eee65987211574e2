/-
  DERIVED. GIVEN WITH THE SEED: THE CARDS: each row of YtidplckoolmaiaaDoorRows.lean that lists a variable, with what it lists TIED to the program's text (the seventh form; the later family's looks); each row that meets fmt, with fmt's text TOLD by the authors' own Lean function (tested against real Go, not proved from fmt's source: count such statements apart). THE CARD IS WHAT COUNTS. Prove the row's statement (the work); the ties are given (YtidplckoolmaiaaDoorTie.lean); close each card by the builder's one call (the guide's Derived/Test/ToyasCard.lean, 'card_holds'). Laid BY PROGRAM, IN A SANDBOX (cutbox-door.mjs). By AI agents, Wed Nov 11 2026. No macro, syntax, notation, axiom, sorry.
-/
import Derived.Test.YtidplckoolmaiaaDoorRows
import GoSem.ClaimSeven
namespace Go.Proofs.YtidplckoolmaiaaDoor
namespace Rows

/-- THE TIED CARD OF 'middenlaw12.CodeHeads'. -/
def codeHeadsCard : Claim7 := { stood := { row := codeHeadsRow, standIns := [], harness := (true, "d6b965ad8f1ecdfcb5a964ad57db2cdc6516245a1f31a780029d03239a3089fa"), looks := false }, kinds := [], alts := [], laidByText := true, laidKinds := [.data], laidTests := true, laidLooks := .later }
def CodeHeadsCardSaid : Prop := Claim7.holds Tryd.pinned (.plain (OpenSpec.ofChange codeHeadsSpec)) codeHeadsCard

/-- THE TIED CARD OF 'middenlaw12.CodeMore'. -/
def codeMoreCard : Claim7 := { stood := { row := codeMoreRow, standIns := [], harness := (true, "d6b965ad8f1ecdfcb5a964ad57db2cdc6516245a1f31a780029d03239a3089fa"), looks := false }, kinds := [], alts := [], laidByText := true, laidKinds := [.data], laidTests := true, laidLooks := .later }
def CodeMoreCardSaid : Prop := Claim7.holds Tryd.pinned (.plain (OpenSpec.ofChange codeMoreSpec)) codeMoreCard

/-- THE SECOND FORM's CARD OF 'middenlaw12.CodeHeads'. -/
def codeHeadsUptoCard : Claim7 := { stood := { row := codeHeadsUptoRow, standIns := [], harness := (true, "d6b965ad8f1ecdfcb5a964ad57db2cdc6516245a1f31a780029d03239a3089fa"), looks := false }, kinds := [], alts := [], laidByText := true, laidKinds := [.data], laidTests := true, laidLooks := .later }
def CodeHeadsUptoCardSaid : Prop := Claim7.holds Tryd.pinned (.plain (OpenSpec.upto codeHeadsSpec)) codeHeadsUptoCard

/-- THE SECOND FORM's CARD OF 'middenlaw12.CodeMore'. -/
def codeMoreUptoCard : Claim7 := { stood := { row := codeMoreUptoRow, standIns := [], harness := (true, "d6b965ad8f1ecdfcb5a964ad57db2cdc6516245a1f31a780029d03239a3089fa"), looks := false }, kinds := [], alts := [], laidByText := true, laidKinds := [.data], laidTests := true, laidLooks := .later }
def CodeMoreUptoCardSaid : Prop := Claim7.holds Tryd.pinned (.plain (OpenSpec.upto codeMoreSpec)) codeMoreUptoCard
end Rows
end Go.Proofs.YtidplckoolmaiaaDoor
