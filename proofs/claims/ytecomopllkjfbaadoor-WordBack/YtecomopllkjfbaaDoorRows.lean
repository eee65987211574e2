/-
  NARROWER THAN 'FOR EVERY INPUT', by the rows' own cells (each row's printed sentence says how): WordPacks: laid · WordUnpacks: laid · WordMoves: laid · WordBack: laid · WordApart: laid · WordNumbers: laid.
  DERIVED. THE GIVEN ROWS OF THIS SEAT. 6 by the template 'for every input the law returns true; each argument reads behind the call as it read before'; 0 by the template 'total and deterministic' (their statements: YtecomopllkjfbaaDoorTotals.lean).
  GIVEN WITH THE SEED: the statements are not yours to turn. If you find one false, say at which input.
  Laid BY PROGRAM, IN A SANDBOX (cutbox-rows.mjs): the forced cells as the released guide's own fill.sh prints them over the translation cc470026a17acf53… (all of the seat's roots in one cut). By AI agents, Wed Nov 11 2026. No macro, syntax, notation, axiom, sorry.
-/
import Derived.Test.YtecomopllkjfbaaDoorChecked
import GoSem.Claim
import GoSem.ClaimJoined
import GoSem.ClaimMapViews
import Derived.JoinedTies
import Derived.KernelRfl
namespace Go.Proofs.YtecomopllkjfbaaDoor
/- THE CELL 'sum', in the pinned program and in every row, IS THE sha256 OF THE DUMP (.gsa) THAT YtecomopllkjfbaaDoorProg.lean LOADS. Nothing in Lean hashes anything: it is a label: what it is worth is what the hold of that sum in a sandbox is worth. -/
noncomputable def Tryd.pinned : Pinned := { name := "ytecomopllkjfbaadoor", sum := "cc470026a17acf530edece6799cb5a25c283dd8f5f416cba57c4ed16aacadba7", checked := Tryd.checked }
namespace Rows
def none {H : Type} : Left H := { results := [], args := [] }

/- WHAT THE LISTED PACKAGE-LEVEL VARIABLES READ AS WHEN THE CALL BEGINS. Each datum BY PROGRAM (the guide's laid-datum.mjs) off the statement by which the dump's own 'gosem.cut.vars' lays the variable. In a bare row this is a premise. The card (YtecomopllkjfbaaDoorCards.lean) ties it to the program's text. -/
def laid_midden_word_spans {H : Type} : DataW H := .agg [.agg [.lit (.int .u64 0), .lit (.int .u64 1)], .agg [.lit (.int .u64 1), .lit (.int .u64 4)], .agg [.lit (.int .u64 5), .lit (.int .u64 12)], .agg [.lit (.int .u64 17), .lit (.int .u64 12)], .agg [.lit (.int .u64 29), .lit (.int .u64 20)], .agg [.lit (.int .u64 49), .lit (.int .u64 15)]]

/-- 'middenlaw01.WordPacks': WHATEVER THE INPUT: true; the input reads as it did. -/
def wordPacksSpec : ChangeSpec := { name := "wordPacks", fn := fun _ => fun
  | [d] => { results := [.lit (.bool true)], args := [d] }
  | _ => none }
def wordPacksRow : OpenClaim := { program := "ytecomopllkjfbaadoor", sum := "cc470026a17acf530edece6799cb5a25c283dd8f5f416cba57c4ed16aacadba7", func := "midden/middenlaw01.WordPacks", spec := "wordPacks", named := ["midden/word.spans"], apart := false, laid := [("midden/word.spans", laid_midden_word_spans)] }
def WordPacksSaid : Prop := wordPacksRow.holds Tryd.pinned (OpenSpec.ofChange wordPacksSpec)

/-- ITS FALSE NEIGHBOUR: 'it returns false'. Refute it at one input. -/
def wordPacksWrong : ChangeSpec := { name := "wordPacks", fn := fun _ => fun
  | [d] => { results := [.lit (.bool false)], args := [d] }
  | _ => none }
def WordPacksWrongFalsely : Prop := wordPacksRow.holds Tryd.pinned (OpenSpec.ofChange wordPacksWrong)

/-- 'middenlaw01.WordUnpacks': WHATEVER THE INPUT: true; the input reads as it did. -/
def wordUnpacksSpec : ChangeSpec := { name := "wordUnpacks", fn := fun _ => fun
  | [d] => { results := [.lit (.bool true)], args := [d] }
  | _ => none }
def wordUnpacksRow : OpenClaim := { program := "ytecomopllkjfbaadoor", sum := "cc470026a17acf530edece6799cb5a25c283dd8f5f416cba57c4ed16aacadba7", func := "midden/middenlaw01.WordUnpacks", spec := "wordUnpacks", named := ["midden/word.spans"], apart := false, laid := [("midden/word.spans", laid_midden_word_spans)] }
def WordUnpacksSaid : Prop := wordUnpacksRow.holds Tryd.pinned (OpenSpec.ofChange wordUnpacksSpec)

/-- ITS FALSE NEIGHBOUR: 'it returns false'. Refute it at one input. -/
def wordUnpacksWrong : ChangeSpec := { name := "wordUnpacks", fn := fun _ => fun
  | [d] => { results := [.lit (.bool false)], args := [d] }
  | _ => none }
def WordUnpacksWrongFalsely : Prop := wordUnpacksRow.holds Tryd.pinned (OpenSpec.ofChange wordUnpacksWrong)

/-- 'middenlaw01.WordMoves': WHATEVER THE INPUT: true; the input reads as it did. -/
def wordMovesSpec : ChangeSpec := { name := "wordMoves", fn := fun _ => fun
  | [d1, d2] => { results := [.lit (.bool true)], args := [d1, d2] }
  | _ => none }
def wordMovesRow : OpenClaim := { program := "ytecomopllkjfbaadoor", sum := "cc470026a17acf530edece6799cb5a25c283dd8f5f416cba57c4ed16aacadba7", func := "midden/middenlaw01.WordMoves", spec := "wordMoves", named := ["midden/word.spans"], apart := false, laid := [("midden/word.spans", laid_midden_word_spans)] }
def WordMovesSaid : Prop := wordMovesRow.holds Tryd.pinned (OpenSpec.ofChange wordMovesSpec)

/-- ITS FALSE NEIGHBOUR: 'it returns false'. Refute it at one input. -/
def wordMovesWrong : ChangeSpec := { name := "wordMoves", fn := fun _ => fun
  | [d1, d2] => { results := [.lit (.bool false)], args := [d1, d2] }
  | _ => none }
def WordMovesWrongFalsely : Prop := wordMovesRow.holds Tryd.pinned (OpenSpec.ofChange wordMovesWrong)

/-- 'middenlaw01.WordBack': WHATEVER THE INPUT: true; the input reads as it did. -/
def wordBackSpec : ChangeSpec := { name := "wordBack", fn := fun _ => fun
  | [d1, d2] => { results := [.lit (.bool true)], args := [d1, d2] }
  | _ => none }
def wordBackRow : OpenClaim := { program := "ytecomopllkjfbaadoor", sum := "cc470026a17acf530edece6799cb5a25c283dd8f5f416cba57c4ed16aacadba7", func := "midden/middenlaw01.WordBack", spec := "wordBack", named := ["midden/word.spans"], apart := false, laid := [("midden/word.spans", laid_midden_word_spans)] }
def WordBackSaid : Prop := wordBackRow.holds Tryd.pinned (OpenSpec.ofChange wordBackSpec)

/-- ITS FALSE NEIGHBOUR: 'it returns false'. Refute it at one input. -/
def wordBackWrong : ChangeSpec := { name := "wordBack", fn := fun _ => fun
  | [d1, d2] => { results := [.lit (.bool false)], args := [d1, d2] }
  | _ => none }
def WordBackWrongFalsely : Prop := wordBackRow.holds Tryd.pinned (OpenSpec.ofChange wordBackWrong)

/-- 'middenlaw01.WordApart': WHATEVER THE INPUT: true; the input reads as it did. -/
def wordApartSpec : ChangeSpec := { name := "wordApart", fn := fun _ => fun
  | [d1, d2, d3] => { results := [.lit (.bool true)], args := [d1, d2, d3] }
  | _ => none }
def wordApartRow : OpenClaim := { program := "ytecomopllkjfbaadoor", sum := "cc470026a17acf530edece6799cb5a25c283dd8f5f416cba57c4ed16aacadba7", func := "midden/middenlaw01.WordApart", spec := "wordApart", named := ["midden/word.spans"], apart := false, laid := [("midden/word.spans", laid_midden_word_spans)] }
def WordApartSaid : Prop := wordApartRow.holds Tryd.pinned (OpenSpec.ofChange wordApartSpec)

/-- ITS FALSE NEIGHBOUR: 'it returns false'. Refute it at one input. -/
def wordApartWrong : ChangeSpec := { name := "wordApart", fn := fun _ => fun
  | [d1, d2, d3] => { results := [.lit (.bool false)], args := [d1, d2, d3] }
  | _ => none }
def WordApartWrongFalsely : Prop := wordApartRow.holds Tryd.pinned (OpenSpec.ofChange wordApartWrong)

/-- 'middenlaw01.WordNumbers': WHATEVER THE INPUT: true; the input reads as it did. -/
def wordNumbersSpec : ChangeSpec := { name := "wordNumbers", fn := fun _ => fun
  | [d1, d2] => { results := [.lit (.bool true)], args := [d1, d2] }
  | _ => none }
def wordNumbersRow : OpenClaim := { program := "ytecomopllkjfbaadoor", sum := "cc470026a17acf530edece6799cb5a25c283dd8f5f416cba57c4ed16aacadba7", func := "midden/middenlaw01.WordNumbers", spec := "wordNumbers", named := ["midden/word.spans"], apart := false, laid := [("midden/word.spans", laid_midden_word_spans)] }
def WordNumbersSaid : Prop := wordNumbersRow.holds Tryd.pinned (OpenSpec.ofChange wordNumbersSpec)

/-- ITS FALSE NEIGHBOUR: 'it returns false'. Refute it at one input. -/
def wordNumbersWrong : ChangeSpec := { name := "wordNumbers", fn := fun _ => fun
  | [d1, d2] => { results := [.lit (.bool false)], args := [d1, d2] }
  | _ => none }
def WordNumbersWrongFalsely : Prop := wordNumbersRow.holds Tryd.pinned (OpenSpec.ofChange wordNumbersWrong)

/- THE SECOND FORM. 'bulk': how many values and letters a reading holds, each counted each time it is reached (what is shared counts as often as it is met; a slice's spare places count too). A statement '..UptoSaid' is the law's where the arguments, and the package variables that the reading takes, are together of bulk at most 1048576: NARROWER than '..Said'. Prove '..Said' where nothing that the law and all that it calls make is longer than what came in: it says more and counts as full. Else prove '..UptoSaid'. A law counts once. -/
mutual
def uptoBulk {H : Type} : DataW H → Nat
  | .lit (.string bytes) => bytes.length + 1
  | .lit _ => 1
  | .nil => 1
  | .ptr d => uptoBulk d + 1
  | .slice elems spare => uptoBulkAll elems + uptoBulkAll spare + 1
  | .agg parts => uptoBulkAll parts + 1
  | .iface _ d => uptoBulk d + 1
  | .map entries => uptoBulkEntries entries + 1
  | .held _ => 1
def uptoBulkAll {H : Type} : List (DataW H) → Nat
  | [] => 0
  | d :: r => uptoBulk d + uptoBulkAll r
def uptoBulkEntries {H : Type} : List (Lit × DataW H) → Nat
  | [] => 0
  | x :: r => uptoBulkEntry x + uptoBulkEntries r
def uptoBulkEntry {H : Type} : Lit × DataW H → Nat
  | (.string bytes, d) => bytes.length + uptoBulk d + 1
  | (_, d) => uptoBulk d + 1
 end
def uptoSmall : (H : Type) → List (DataW H) → Bool := fun _ ds => decide (uptoBulkAll ds ≤ 1048576)
def OpenSpec.upto (s : _root_.Go.ChangeSpec) : _root_.Go.OpenSpec := { _root_.Go.OpenSpec.ofChange s with cond := some uptoSmall }

/-- 'middenlaw01.WordPacks', WHERE WHAT IT READS IS OF BULK AT MOST 1048576: true; the input reads as it did. -/
def wordPacksUptoRow : OpenClaim := { program := "ytecomopllkjfbaadoor", sum := "cc470026a17acf530edece6799cb5a25c283dd8f5f416cba57c4ed16aacadba7", func := "midden/middenlaw01.WordPacks", spec := "wordPacks", named := ["midden/word.spans"], apart := false, laid := [("midden/word.spans", laid_midden_word_spans)], narrowed := true }
def WordPacksUptoSaid : Prop := wordPacksUptoRow.holds Tryd.pinned (OpenSpec.upto wordPacksSpec)

/-- 'middenlaw01.WordUnpacks', WHERE WHAT IT READS IS OF BULK AT MOST 1048576: true; the input reads as it did. -/
def wordUnpacksUptoRow : OpenClaim := { program := "ytecomopllkjfbaadoor", sum := "cc470026a17acf530edece6799cb5a25c283dd8f5f416cba57c4ed16aacadba7", func := "midden/middenlaw01.WordUnpacks", spec := "wordUnpacks", named := ["midden/word.spans"], apart := false, laid := [("midden/word.spans", laid_midden_word_spans)], narrowed := true }
def WordUnpacksUptoSaid : Prop := wordUnpacksUptoRow.holds Tryd.pinned (OpenSpec.upto wordUnpacksSpec)

/-- 'middenlaw01.WordMoves', WHERE WHAT IT READS IS OF BULK AT MOST 1048576: true; the input reads as it did. -/
def wordMovesUptoRow : OpenClaim := { program := "ytecomopllkjfbaadoor", sum := "cc470026a17acf530edece6799cb5a25c283dd8f5f416cba57c4ed16aacadba7", func := "midden/middenlaw01.WordMoves", spec := "wordMoves", named := ["midden/word.spans"], apart := false, laid := [("midden/word.spans", laid_midden_word_spans)], narrowed := true }
def WordMovesUptoSaid : Prop := wordMovesUptoRow.holds Tryd.pinned (OpenSpec.upto wordMovesSpec)

/-- 'middenlaw01.WordBack', WHERE WHAT IT READS IS OF BULK AT MOST 1048576: true; the input reads as it did. -/
def wordBackUptoRow : OpenClaim := { program := "ytecomopllkjfbaadoor", sum := "cc470026a17acf530edece6799cb5a25c283dd8f5f416cba57c4ed16aacadba7", func := "midden/middenlaw01.WordBack", spec := "wordBack", named := ["midden/word.spans"], apart := false, laid := [("midden/word.spans", laid_midden_word_spans)], narrowed := true }
def WordBackUptoSaid : Prop := wordBackUptoRow.holds Tryd.pinned (OpenSpec.upto wordBackSpec)

/-- 'middenlaw01.WordApart', WHERE WHAT IT READS IS OF BULK AT MOST 1048576: true; the input reads as it did. -/
def wordApartUptoRow : OpenClaim := { program := "ytecomopllkjfbaadoor", sum := "cc470026a17acf530edece6799cb5a25c283dd8f5f416cba57c4ed16aacadba7", func := "midden/middenlaw01.WordApart", spec := "wordApart", named := ["midden/word.spans"], apart := false, laid := [("midden/word.spans", laid_midden_word_spans)], narrowed := true }
def WordApartUptoSaid : Prop := wordApartUptoRow.holds Tryd.pinned (OpenSpec.upto wordApartSpec)

/-- 'middenlaw01.WordNumbers', WHERE WHAT IT READS IS OF BULK AT MOST 1048576: true; the input reads as it did. -/
def wordNumbersUptoRow : OpenClaim := { program := "ytecomopllkjfbaadoor", sum := "cc470026a17acf530edece6799cb5a25c283dd8f5f416cba57c4ed16aacadba7", func := "midden/middenlaw01.WordNumbers", spec := "wordNumbers", named := ["midden/word.spans"], apart := false, laid := [("midden/word.spans", laid_midden_word_spans)], narrowed := true }
def WordNumbersUptoSaid : Prop := wordNumbersUptoRow.holds Tryd.pinned (OpenSpec.upto wordNumbersSpec)

end Rows
end Go.Proofs.YtecomopllkjfbaaDoor
