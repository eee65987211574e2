/-
  DERIVED. GIVEN WITH THE SEED: THE CARDS: each row of YtglimbpnekephaaDoorRows.lean that lists a variable, with what it lists TIED to the program's text (the seventh form; the later family's looks); each row that meets fmt, with fmt's text TOLD by the authors' own Lean function (tested against real Go, not proved from fmt's source: count such statements apart). THE CARD IS WHAT COUNTS. Prove the row's statement (the work); the ties are given (YtglimbpnekephaaDoorTie.lean); close each card by the builder's one call (the guide's Derived/Test/ToyasCard.lean, 'card_holds'). Laid BY PROGRAM, IN A SANDBOX (cutbox-door.mjs). By AI agents, Wed Nov 11 2026. No macro, syntax, notation, axiom, sorry.
-/
import Derived.Test.YtglimbpnekephaaDoorRows
import GoSem.ClaimSeven
namespace Go.Proofs.YtglimbpnekephaaDoor
namespace Rows

/-- THE TIED CARD OF 'middenlaw14.StackDoes'. -/
def stackDoesCard : Claim7 := { stood := { row := stackDoesRow, standIns := [], harness := (true, "0cab1f058ada728a26c1acd48818bb4f12473662da677f6a859f2c03c9bdd55d"), looks := false }, kinds := [], alts := [], laidByText := true, laidKinds := [.data], laidTests := true, laidLooks := .later }
def StackDoesCardSaid : Prop := Claim7.holds Tryd.pinned (.plain (OpenSpec.ofChange stackDoesSpec)) stackDoesCard

/-- THE TIED CARD OF 'middenlaw14.StackRight'. -/
def stackRightCard : Claim7 := { stood := { row := stackRightRow, standIns := [], harness := (true, "0cab1f058ada728a26c1acd48818bb4f12473662da677f6a859f2c03c9bdd55d"), looks := false }, kinds := [], alts := [], laidByText := true, laidKinds := [.data], laidTests := true, laidLooks := .later }
def StackRightCardSaid : Prop := Claim7.holds Tryd.pinned (.plain (OpenSpec.ofChange stackRightSpec)) stackRightCard

/-- THE TIED CARD OF 'middenlaw14.StackNew'. -/
def stackNewCard : Claim7 := { stood := { row := stackNewRow, standIns := [], harness := (true, "0cab1f058ada728a26c1acd48818bb4f12473662da677f6a859f2c03c9bdd55d"), looks := false }, kinds := [], alts := [], laidByText := true, laidKinds := [.data], laidTests := true, laidLooks := .later }
def StackNewCardSaid : Prop := Claim7.holds Tryd.pinned (.plain (OpenSpec.ofChange stackNewSpec)) stackNewCard

/-- THE TIED CARD OF 'middenlaw14.StackBack'. -/
def stackBackCard : Claim7 := { stood := { row := stackBackRow, standIns := [], harness := (true, "0cab1f058ada728a26c1acd48818bb4f12473662da677f6a859f2c03c9bdd55d"), looks := false }, kinds := [], alts := [], laidByText := true, laidKinds := [.data], laidTests := true, laidLooks := .later }
def StackBackCardSaid : Prop := Claim7.holds Tryd.pinned (.plain (OpenSpec.ofChange stackBackSpec)) stackBackCard

/-- THE TIED CARD OF 'middenlaw14.StackMaps'. -/
def stackMapsCard : Claim7 := { stood := { row := stackMapsRow, standIns := [], harness := (true, "0cab1f058ada728a26c1acd48818bb4f12473662da677f6a859f2c03c9bdd55d"), looks := false }, kinds := [], alts := [], laidByText := true, laidKinds := [.data], laidTests := true, laidLooks := .later }
def StackMapsCardSaid : Prop := Claim7.holds Tryd.pinned (.plain (OpenSpec.ofChange stackMapsSpec)) stackMapsCard

/-- THE TIED CARD OF 'middenlaw14.StackNone'. -/
def stackNoneCard : Claim7 := { stood := { row := stackNoneRow, standIns := [], harness := (true, "0cab1f058ada728a26c1acd48818bb4f12473662da677f6a859f2c03c9bdd55d"), looks := false }, kinds := [], alts := [], laidByText := true, laidKinds := [.data], laidTests := true, laidLooks := .later }
def StackNoneCardSaid : Prop := Claim7.holds Tryd.pinned (.plain (OpenSpec.ofChange stackNoneSpec)) stackNoneCard

/-- THE SECOND FORM's CARD OF 'middenlaw14.StackDoes'. -/
def stackDoesUptoCard : Claim7 := { stood := { row := stackDoesUptoRow, standIns := [], harness := (true, "0cab1f058ada728a26c1acd48818bb4f12473662da677f6a859f2c03c9bdd55d"), looks := false }, kinds := [], alts := [], laidByText := true, laidKinds := [.data], laidTests := true, laidLooks := .later }
def StackDoesUptoCardSaid : Prop := Claim7.holds Tryd.pinned (.plain (OpenSpec.upto stackDoesSpec)) stackDoesUptoCard

/-- THE SECOND FORM's CARD OF 'middenlaw14.StackRight'. -/
def stackRightUptoCard : Claim7 := { stood := { row := stackRightUptoRow, standIns := [], harness := (true, "0cab1f058ada728a26c1acd48818bb4f12473662da677f6a859f2c03c9bdd55d"), looks := false }, kinds := [], alts := [], laidByText := true, laidKinds := [.data], laidTests := true, laidLooks := .later }
def StackRightUptoCardSaid : Prop := Claim7.holds Tryd.pinned (.plain (OpenSpec.upto stackRightSpec)) stackRightUptoCard

/-- THE SECOND FORM's CARD OF 'middenlaw14.StackNew'. -/
def stackNewUptoCard : Claim7 := { stood := { row := stackNewUptoRow, standIns := [], harness := (true, "0cab1f058ada728a26c1acd48818bb4f12473662da677f6a859f2c03c9bdd55d"), looks := false }, kinds := [], alts := [], laidByText := true, laidKinds := [.data], laidTests := true, laidLooks := .later }
def StackNewUptoCardSaid : Prop := Claim7.holds Tryd.pinned (.plain (OpenSpec.upto stackNewSpec)) stackNewUptoCard

/-- THE SECOND FORM's CARD OF 'middenlaw14.StackBack'. -/
def stackBackUptoCard : Claim7 := { stood := { row := stackBackUptoRow, standIns := [], harness := (true, "0cab1f058ada728a26c1acd48818bb4f12473662da677f6a859f2c03c9bdd55d"), looks := false }, kinds := [], alts := [], laidByText := true, laidKinds := [.data], laidTests := true, laidLooks := .later }
def StackBackUptoCardSaid : Prop := Claim7.holds Tryd.pinned (.plain (OpenSpec.upto stackBackSpec)) stackBackUptoCard

/-- THE SECOND FORM's CARD OF 'middenlaw14.StackMaps'. -/
def stackMapsUptoCard : Claim7 := { stood := { row := stackMapsUptoRow, standIns := [], harness := (true, "0cab1f058ada728a26c1acd48818bb4f12473662da677f6a859f2c03c9bdd55d"), looks := false }, kinds := [], alts := [], laidByText := true, laidKinds := [.data], laidTests := true, laidLooks := .later }
def StackMapsUptoCardSaid : Prop := Claim7.holds Tryd.pinned (.plain (OpenSpec.upto stackMapsSpec)) stackMapsUptoCard

/-- THE SECOND FORM's CARD OF 'middenlaw14.StackNone'. -/
def stackNoneUptoCard : Claim7 := { stood := { row := stackNoneUptoRow, standIns := [], harness := (true, "0cab1f058ada728a26c1acd48818bb4f12473662da677f6a859f2c03c9bdd55d"), looks := false }, kinds := [], alts := [], laidByText := true, laidKinds := [.data], laidTests := true, laidLooks := .later }
def StackNoneUptoCardSaid : Prop := Claim7.holds Tryd.pinned (.plain (OpenSpec.upto stackNoneSpec)) stackNoneUptoCard
end Rows
end Go.Proofs.YtglimbpnekephaaDoor
