/-
  DERIVED. GIVEN WITH THE SEED: THE CARDS: each row of YtbajpejnnfacbaaGreatDoorRows.lean that lists a variable, with what it lists TIED to the program's text (the seventh form; the later family's looks); each row that meets fmt, with fmt's text TOLD by the authors' own Lean function (tested against real Go, not proved from fmt's source: count such statements apart). THE CARD IS WHAT COUNTS. Prove the row's statement (the work); the ties are given (YtbajpejnnfacbaaGreatDoorTie.lean); close each card by the builder's one call (the guide's Derived/Test/ToyasCard.lean, 'card_holds'). Laid BY PROGRAM, IN A SANDBOX (cutbox-door.mjs). By AI agents, Wed Nov 11 2026. No macro, syntax, notation, axiom, sorry.
-/
import Derived.Test.YtbajpejnnfacbaaGreatDoorRows
import GoSem.ClaimSeven
namespace Go.Proofs.YtbajpejnnfacbaaGreatDoor
namespace Rows

/-- THE TIED CARD OF 'middenlaw11.LazyMore'. -/
def lazyMoreCard : Claim7 := { stood := { row := lazyMoreRow, standIns := [], harness := (true, "d1d1c8deba95c267d9cccf98c2f13700699190201f49283c95e3bb5fd5fd1d73"), looks := false }, kinds := [], alts := [], laidByText := true, laidKinds := [.data], laidTests := true, laidLooks := .later }
def LazyMoreCardSaid : Prop := Claim7.holds Tryz.pinned (.plain (OpenSpec.ofChange lazyMoreSpec)) lazyMoreCard

/-- THE TIED CARD OF 'middenlaw11.LazyOnce'. -/
def lazyOnceCard : Claim7 := { stood := { row := lazyOnceRow, standIns := [], harness := (true, "d1d1c8deba95c267d9cccf98c2f13700699190201f49283c95e3bb5fd5fd1d73"), looks := false }, kinds := [], alts := [], laidByText := true, laidKinds := [.data], laidTests := true, laidLooks := .later }
def LazyOnceCardSaid : Prop := Claim7.holds Tryz.pinned (.plain (OpenSpec.ofChange lazyOnceSpec)) lazyOnceCard

/-- THE TIED CARD OF 'middenlaw11.LazyNames'. -/
def lazyNamesCard : Claim7 := { stood := { row := lazyNamesRow, standIns := [], harness := (true, "d1d1c8deba95c267d9cccf98c2f13700699190201f49283c95e3bb5fd5fd1d73"), looks := false }, kinds := [], alts := [], laidByText := true, laidKinds := [.data], laidTests := true, laidLooks := .later }
def LazyNamesCardSaid : Prop := Claim7.holds Tryz.pinned (.plain (OpenSpec.ofChange lazyNamesSpec)) lazyNamesCard

/-- THE TIED CARD OF 'middenlaw11.LazyNone'. -/
def lazyNoneCard : Claim7 := { stood := { row := lazyNoneRow, standIns := [], harness := (true, "d1d1c8deba95c267d9cccf98c2f13700699190201f49283c95e3bb5fd5fd1d73"), looks := false }, kinds := [], alts := [], laidByText := true, laidKinds := [.data], laidTests := true, laidLooks := .later }
def LazyNoneCardSaid : Prop := Claim7.holds Tryz.pinned (.plain (OpenSpec.ofChange lazyNoneSpec)) lazyNoneCard

/-- THE SECOND FORM's CARD OF 'middenlaw11.LazyMore'. -/
def lazyMoreUptoCard : Claim7 := { stood := { row := lazyMoreUptoRow, standIns := [], harness := (true, "d1d1c8deba95c267d9cccf98c2f13700699190201f49283c95e3bb5fd5fd1d73"), looks := false }, kinds := [], alts := [], laidByText := true, laidKinds := [.data], laidTests := true, laidLooks := .later }
def LazyMoreUptoCardSaid : Prop := Claim7.holds Tryz.pinned (.plain (OpenSpec.upto lazyMoreSpec)) lazyMoreUptoCard

/-- THE SECOND FORM's CARD OF 'middenlaw11.LazyOnce'. -/
def lazyOnceUptoCard : Claim7 := { stood := { row := lazyOnceUptoRow, standIns := [], harness := (true, "d1d1c8deba95c267d9cccf98c2f13700699190201f49283c95e3bb5fd5fd1d73"), looks := false }, kinds := [], alts := [], laidByText := true, laidKinds := [.data], laidTests := true, laidLooks := .later }
def LazyOnceUptoCardSaid : Prop := Claim7.holds Tryz.pinned (.plain (OpenSpec.upto lazyOnceSpec)) lazyOnceUptoCard

/-- THE SECOND FORM's CARD OF 'middenlaw11.LazyNames'. -/
def lazyNamesUptoCard : Claim7 := { stood := { row := lazyNamesUptoRow, standIns := [], harness := (true, "d1d1c8deba95c267d9cccf98c2f13700699190201f49283c95e3bb5fd5fd1d73"), looks := false }, kinds := [], alts := [], laidByText := true, laidKinds := [.data], laidTests := true, laidLooks := .later }
def LazyNamesUptoCardSaid : Prop := Claim7.holds Tryz.pinned (.plain (OpenSpec.upto lazyNamesSpec)) lazyNamesUptoCard

/-- THE SECOND FORM's CARD OF 'middenlaw11.LazyNone'. -/
def lazyNoneUptoCard : Claim7 := { stood := { row := lazyNoneUptoRow, standIns := [], harness := (true, "d1d1c8deba95c267d9cccf98c2f13700699190201f49283c95e3bb5fd5fd1d73"), looks := false }, kinds := [], alts := [], laidByText := true, laidKinds := [.data], laidTests := true, laidLooks := .later }
def LazyNoneUptoCardSaid : Prop := Claim7.holds Tryz.pinned (.plain (OpenSpec.upto lazyNoneSpec)) lazyNoneUptoCard
end Rows
end Go.Proofs.YtbajpejnnfacbaaGreatDoor
