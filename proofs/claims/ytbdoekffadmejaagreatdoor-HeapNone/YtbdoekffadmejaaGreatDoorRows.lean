/-
  NARROWER THAN 'FOR EVERY INPUT', by the rows' own cells (each row's printed sentence says how): HeapLists: laid · HeapApart: laid · HeapKeeps: laid · HeapNone: laid.
  DERIVED. THE GIVEN ROWS OF THIS SEAT. 4 by the template 'for every input the law returns true; each argument reads behind the call as it read before'; 0 by the template 'total and deterministic' (their statements: YtbdoekffadmejaaGreatDoorTotals.lean).
  GIVEN WITH THE SEED: the statements are not yours to turn. If you find one false, say at which input.
  Laid BY PROGRAM, IN A SANDBOX (cutbox-rows.mjs): the forced cells as the released guide's own fill.sh prints them over the translation 1dbe1b92758fd464… (all of the seat's roots in one cut). By AI agents, Wed Nov 11 2026. No macro, syntax, notation, axiom, sorry.
-/
import Derived.Test.YtbdoekffadmejaaGreatDoorChecked
import GoSem.Claim
import GoSem.ClaimJoined
import GoSem.ClaimMapViews
import Derived.JoinedTies
import Derived.KernelRfl
namespace Go.Proofs.YtbdoekffadmejaaGreatDoor
/- THE CELL 'sum', in the pinned program and in every row, IS THE sha256 OF THE DUMP (.gsa) THAT YtbdoekffadmejaaGreatDoorProg.lean LOADS. Nothing in Lean hashes anything: it is a label: what it is worth is what the hold of that sum in a sandbox is worth. -/
noncomputable def Tryz.pinned : Pinned := { name := "ytbdoekffadmejaagreatdoor", sum := "1dbe1b92758fd46412fb76dbbe795629eb1aa1e78ae170b09803e50af98848ff", checked := Tryz.checked }
namespace Rows
def none {H : Type} : Left H := { results := [], args := [] }

/- WHAT THE LISTED PACKAGE-LEVEL VARIABLES READ AS WHEN THE CALL BEGINS. Each datum BY PROGRAM (the guide's laid-datum.mjs) off the statement by which the dump's own 'gosem.cut.vars' lays the variable. In a bare row this is a premise. The card (YtbdoekffadmejaaGreatDoorCards.lean) ties it to the program's text. -/
def laid_midden_word_spans {H : Type} : DataW H := .agg [.agg [.lit (.int .u64 0), .lit (.int .u64 1)], .agg [.lit (.int .u64 1), .lit (.int .u64 4)], .agg [.lit (.int .u64 5), .lit (.int .u64 12)], .agg [.lit (.int .u64 17), .lit (.int .u64 12)], .agg [.lit (.int .u64 29), .lit (.int .u64 20)], .agg [.lit (.int .u64 49), .lit (.int .u64 15)]]
def laid_midden_shape_rows {H : Type} : DataW H := .agg [.agg [.lit (.bool false), .agg [.lit (.int .i64 0), .lit (.int .i64 0)], .agg [.lit (.int .i64 0), .lit (.int .i64 0)]], .agg [.lit (.bool true), .agg [.lit (.int .i64 0), .lit (.int .i64 8)], .agg [.lit (.int .i64 0), .lit (.int .i64 0)]], .agg [.lit (.bool false), .agg [.lit (.int .i64 0), .lit (.int .i64 0)], .agg [.lit (.int .i64 1), .lit (.int .i64 1)]], .agg [.lit (.bool true), .agg [.lit (.int .i64 0), .lit (.int .i64 255)], .agg [.lit (.int .i64 0), .lit (.int .i64 0)]], .agg [.lit (.bool false), .agg [.lit (.int .i64 2), .lit (.int .i64 9)], .agg [.lit (.int .i64 0), .lit (.int .i64 0)]], .agg [.lit (.bool false), .agg [.lit (.int .i64 2), .lit (.int .i64 9)], .agg [.lit (.int .i64 0), .lit (.int .i64 0)]], .agg [.lit (.bool true), .agg [.lit (.int .i64 0), .lit (.int .i64 255)], .agg [.lit (.int .i64 0), .lit (.int .i64 1)]], .agg [.lit (.bool true), .agg [.lit (.int .i64 1), .lit (.int .i64 1)], .agg [.lit (.int .i64 1), .lit (.int .i64 1)]], .agg [.lit (.bool false), .agg [.lit (.int .i64 1), .lit (.int .i64 1)], .agg [.lit (.int .i64 0), .lit (.int .i64 4095)]], .agg [.lit (.bool false), .agg [.lit (.int .i64 0), .lit (.int .i64 0)], .agg [.lit (.int .i64 1), .lit (.int .i64 4095)]], .agg [.lit (.bool false), .agg [.lit (.int .i64 1), .lit (.int .i64 1)], .agg [.lit (.int .i64 0), .lit (.int .i64 0)]], .agg [.lit (.bool false), .agg [.lit (.int .i64 0), .lit (.int .i64 1024)], .agg [.lit (.int .i64 0), .lit (.int .i64 0)]], .agg [.lit (.bool false), .agg [.lit (.int .i64 0), .lit (.int .i64 0)], .agg [.lit (.int .i64 1), .lit (.int .i64 4095)]]]

/-- 'middenlaw18.HeapLists': WHATEVER THE INPUT: true; the input reads as it did. -/
def heapListsSpec : ChangeSpec := { name := "heapLists", fn := fun _ => fun
  | [d1, d2] => { results := [.lit (.bool true)], args := [d1, d2] }
  | _ => none }
def heapListsRow : OpenClaim := { program := "ytbdoekffadmejaagreatdoor", sum := "1dbe1b92758fd46412fb76dbbe795629eb1aa1e78ae170b09803e50af98848ff", func := "midden/middenlaw18.HeapLists", spec := "heapLists", unfollowed := true, recurses := true, named := ["midden/shape.rows", "midden/word.spans"], apart := false, laid := [("midden/word.spans", laid_midden_word_spans), ("midden/shape.rows", laid_midden_shape_rows)] }
def HeapListsSaid : Prop := heapListsRow.holds Tryz.pinned (OpenSpec.ofChange heapListsSpec)

/-- ITS FALSE NEIGHBOUR: 'it returns false'. Refute it at one input. -/
def heapListsWrong : ChangeSpec := { name := "heapLists", fn := fun _ => fun
  | [d1, d2] => { results := [.lit (.bool false)], args := [d1, d2] }
  | _ => none }
def HeapListsWrongFalsely : Prop := heapListsRow.holds Tryz.pinned (OpenSpec.ofChange heapListsWrong)

/-- 'middenlaw18.HeapApart': WHATEVER THE INPUT: true; the input reads as it did. -/
def heapApartSpec : ChangeSpec := { name := "heapApart", fn := fun _ => fun
  | [d1, d2] => { results := [.lit (.bool true)], args := [d1, d2] }
  | _ => none }
def heapApartRow : OpenClaim := { program := "ytbdoekffadmejaagreatdoor", sum := "1dbe1b92758fd46412fb76dbbe795629eb1aa1e78ae170b09803e50af98848ff", func := "midden/middenlaw18.HeapApart", spec := "heapApart", unfollowed := true, recurses := true, named := ["midden/shape.rows", "midden/word.spans"], apart := false, laid := [("midden/word.spans", laid_midden_word_spans), ("midden/shape.rows", laid_midden_shape_rows)] }
def HeapApartSaid : Prop := heapApartRow.holds Tryz.pinned (OpenSpec.ofChange heapApartSpec)

/-- ITS FALSE NEIGHBOUR: 'it returns false'. Refute it at one input. -/
def heapApartWrong : ChangeSpec := { name := "heapApart", fn := fun _ => fun
  | [d1, d2] => { results := [.lit (.bool false)], args := [d1, d2] }
  | _ => none }
def HeapApartWrongFalsely : Prop := heapApartRow.holds Tryz.pinned (OpenSpec.ofChange heapApartWrong)

/-- 'middenlaw18.HeapKeeps': WHATEVER THE INPUT: true; the input reads as it did. -/
def heapKeepsSpec : ChangeSpec := { name := "heapKeeps", fn := fun _ => fun
  | [d1, d2, d3] => { results := [.lit (.bool true)], args := [d1, d2, d3] }
  | _ => none }
def heapKeepsRow : OpenClaim := { program := "ytbdoekffadmejaagreatdoor", sum := "1dbe1b92758fd46412fb76dbbe795629eb1aa1e78ae170b09803e50af98848ff", func := "midden/middenlaw18.HeapKeeps", spec := "heapKeeps", unfollowed := true, recurses := true, named := ["midden/shape.rows", "midden/word.spans"], apart := false, laid := [("midden/word.spans", laid_midden_word_spans), ("midden/shape.rows", laid_midden_shape_rows)] }
def HeapKeepsSaid : Prop := heapKeepsRow.holds Tryz.pinned (OpenSpec.ofChange heapKeepsSpec)

/-- ITS FALSE NEIGHBOUR: 'it returns false'. Refute it at one input. -/
def heapKeepsWrong : ChangeSpec := { name := "heapKeeps", fn := fun _ => fun
  | [d1, d2, d3] => { results := [.lit (.bool false)], args := [d1, d2, d3] }
  | _ => none }
def HeapKeepsWrongFalsely : Prop := heapKeepsRow.holds Tryz.pinned (OpenSpec.ofChange heapKeepsWrong)

/-- 'middenlaw18.HeapNone': WHATEVER THE INPUT: true; the input reads as it did. -/
def heapNoneSpec : ChangeSpec := { name := "heapNone", fn := fun _ => fun
  | [d] => { results := [.lit (.bool true)], args := [d] }
  | _ => none }
def heapNoneRow : OpenClaim := { program := "ytbdoekffadmejaagreatdoor", sum := "1dbe1b92758fd46412fb76dbbe795629eb1aa1e78ae170b09803e50af98848ff", func := "midden/middenlaw18.HeapNone", spec := "heapNone", unfollowed := true, recurses := true, named := ["midden/shape.rows", "midden/word.spans"], apart := false, laid := [("midden/word.spans", laid_midden_word_spans), ("midden/shape.rows", laid_midden_shape_rows)] }
def HeapNoneSaid : Prop := heapNoneRow.holds Tryz.pinned (OpenSpec.ofChange heapNoneSpec)

/-- ITS FALSE NEIGHBOUR: 'it returns false'. Refute it at one input. -/
def heapNoneWrong : ChangeSpec := { name := "heapNone", fn := fun _ => fun
  | [d] => { results := [.lit (.bool false)], args := [d] }
  | _ => none }
def HeapNoneWrongFalsely : Prop := heapNoneRow.holds Tryz.pinned (OpenSpec.ofChange heapNoneWrong)

/- THE SECOND FORM. 'bulk': how many values and letters a reading holds, each counted each time it is reached (what is shared counts as often as it is met; a slice's spare places count too). A statement '..UptoSaid' is the law's where the arguments, and the package variables that the reading takes, are together of bulk at most 1048576: NARROWER than '..Said'. Prove '..Said' where nothing that the law and all that it calls make is longer than what came in: it says more and counts as full. Else prove '..UptoSaid'. A law counts once. -/
mutual
def uptoBulk {H : Type} : DataW H → Nat
  | .lit (.string bytes) => bytes.length + 1
  | .lit _ => 1
  | .nil => 1
  | .ptr d => uptoBulk d + 1
  | .slice elems spare => uptoBulkAll elems + uptoBulkAll spare + 1
  | .agg parts => uptoBulkAll parts + 1
  | .iface _ d => uptoBulk d + 1
  | .map entries => uptoBulkEntries entries + 1
  | .held _ => 1
def uptoBulkAll {H : Type} : List (DataW H) → Nat
  | [] => 0
  | d :: r => uptoBulk d + uptoBulkAll r
def uptoBulkEntries {H : Type} : List (Lit × DataW H) → Nat
  | [] => 0
  | x :: r => uptoBulkEntry x + uptoBulkEntries r
def uptoBulkEntry {H : Type} : Lit × DataW H → Nat
  | (.string bytes, d) => bytes.length + uptoBulk d + 1
  | (_, d) => uptoBulk d + 1
 end
def uptoSmall : (H : Type) → List (DataW H) → Bool := fun _ ds => decide (uptoBulkAll ds ≤ 1048576)
def OpenSpec.upto (s : _root_.Go.ChangeSpec) : _root_.Go.OpenSpec := { _root_.Go.OpenSpec.ofChange s with cond := some uptoSmall }

/-- 'middenlaw18.HeapLists', WHERE WHAT IT READS IS OF BULK AT MOST 1048576: true; the input reads as it did. -/
def heapListsUptoRow : OpenClaim := { program := "ytbdoekffadmejaagreatdoor", sum := "1dbe1b92758fd46412fb76dbbe795629eb1aa1e78ae170b09803e50af98848ff", func := "midden/middenlaw18.HeapLists", spec := "heapLists", unfollowed := true, recurses := true, named := ["midden/shape.rows", "midden/word.spans"], apart := false, laid := [("midden/word.spans", laid_midden_word_spans), ("midden/shape.rows", laid_midden_shape_rows)], narrowed := true }
def HeapListsUptoSaid : Prop := heapListsUptoRow.holds Tryz.pinned (OpenSpec.upto heapListsSpec)

/-- 'middenlaw18.HeapApart', WHERE WHAT IT READS IS OF BULK AT MOST 1048576: true; the input reads as it did. -/
def heapApartUptoRow : OpenClaim := { program := "ytbdoekffadmejaagreatdoor", sum := "1dbe1b92758fd46412fb76dbbe795629eb1aa1e78ae170b09803e50af98848ff", func := "midden/middenlaw18.HeapApart", spec := "heapApart", unfollowed := true, recurses := true, named := ["midden/shape.rows", "midden/word.spans"], apart := false, laid := [("midden/word.spans", laid_midden_word_spans), ("midden/shape.rows", laid_midden_shape_rows)], narrowed := true }
def HeapApartUptoSaid : Prop := heapApartUptoRow.holds Tryz.pinned (OpenSpec.upto heapApartSpec)

/-- 'middenlaw18.HeapKeeps', WHERE WHAT IT READS IS OF BULK AT MOST 1048576: true; the input reads as it did. -/
def heapKeepsUptoRow : OpenClaim := { program := "ytbdoekffadmejaagreatdoor", sum := "1dbe1b92758fd46412fb76dbbe795629eb1aa1e78ae170b09803e50af98848ff", func := "midden/middenlaw18.HeapKeeps", spec := "heapKeeps", unfollowed := true, recurses := true, named := ["midden/shape.rows", "midden/word.spans"], apart := false, laid := [("midden/word.spans", laid_midden_word_spans), ("midden/shape.rows", laid_midden_shape_rows)], narrowed := true }
def HeapKeepsUptoSaid : Prop := heapKeepsUptoRow.holds Tryz.pinned (OpenSpec.upto heapKeepsSpec)

/-- 'middenlaw18.HeapNone', WHERE WHAT IT READS IS OF BULK AT MOST 1048576: true; the input reads as it did. -/
def heapNoneUptoRow : OpenClaim := { program := "ytbdoekffadmejaagreatdoor", sum := "1dbe1b92758fd46412fb76dbbe795629eb1aa1e78ae170b09803e50af98848ff", func := "midden/middenlaw18.HeapNone", spec := "heapNone", unfollowed := true, recurses := true, named := ["midden/shape.rows", "midden/word.spans"], apart := false, laid := [("midden/word.spans", laid_midden_word_spans), ("midden/shape.rows", laid_midden_shape_rows)], narrowed := true }
def HeapNoneUptoSaid : Prop := heapNoneUptoRow.holds Tryz.pinned (OpenSpec.upto heapNoneSpec)

end Rows
end Go.Proofs.YtbdoekffadmejaaGreatDoor
