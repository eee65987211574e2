/-
  NARROWER THAN 'FOR EVERY INPUT', by the rows' own cells (each row's printed sentence says how): ShapeRight: laid · ShapeKinds: laid · ShapeOver: laid · ShapeStays: laid · ShapePointers: laid.
  DERIVED. THE GIVEN ROWS OF THIS SEAT. 5 by the template 'for every input the law returns true; each argument reads behind the call as it read before'; 0 by the template 'total and deterministic' (their statements: YtdiibckplkkkkaaDoorTotals.lean).
  GIVEN WITH THE SEED: the statements are not yours to turn. If you find one false, say at which input.
  Laid BY PROGRAM, IN A SANDBOX (cutbox-rows.mjs): the forced cells as the released guide's own fill.sh prints them over the translation ac5694b89c37cbfd… (all of the seat's roots in one cut). By AI agents, Wed Nov 11 2026. No macro, syntax, notation, axiom, sorry.
-/
import Derived.Test.YtdiibckplkkkkaaDoorChecked
import GoSem.Claim
import GoSem.ClaimJoined
import GoSem.ClaimMapViews
import Derived.JoinedTies
import Derived.KernelRfl
namespace Go.Proofs.YtdiibckplkkkkaaDoor
/- THE CELL 'sum', in the pinned program and in every row, IS THE sha256 OF THE DUMP (.gsa) THAT YtdiibckplkkkkaaDoorProg.lean LOADS. Nothing in Lean hashes anything: it is a label: what it is worth is what the hold of that sum in a sandbox is worth. -/
noncomputable def Tryd.pinned : Pinned := { name := "ytdiibckplkkkkaadoor", sum := "ac5694b89c37cbfdb5a0ddbd4a703830f88d537c45521332eabc627458f146a2", checked := Tryd.checked }
namespace Rows
def none {H : Type} : Left H := { results := [], args := [] }

/- WHAT THE LISTED PACKAGE-LEVEL VARIABLES READ AS WHEN THE CALL BEGINS. Each datum BY PROGRAM (the guide's laid-datum.mjs) off the statement by which the dump's own 'gosem.cut.vars' lays the variable. In a bare row this is a premise. The card (YtdiibckplkkkkaaDoorCards.lean) ties it to the program's text. -/
def laid_midden_shape_rows {H : Type} : DataW H := .agg [.agg [.lit (.bool false), .agg [.lit (.int .i64 0), .lit (.int .i64 0)], .agg [.lit (.int .i64 0), .lit (.int .i64 0)]], .agg [.lit (.bool true), .agg [.lit (.int .i64 0), .lit (.int .i64 8)], .agg [.lit (.int .i64 0), .lit (.int .i64 0)]], .agg [.lit (.bool false), .agg [.lit (.int .i64 0), .lit (.int .i64 0)], .agg [.lit (.int .i64 1), .lit (.int .i64 1)]], .agg [.lit (.bool true), .agg [.lit (.int .i64 0), .lit (.int .i64 255)], .agg [.lit (.int .i64 0), .lit (.int .i64 0)]], .agg [.lit (.bool false), .agg [.lit (.int .i64 2), .lit (.int .i64 9)], .agg [.lit (.int .i64 0), .lit (.int .i64 0)]], .agg [.lit (.bool false), .agg [.lit (.int .i64 2), .lit (.int .i64 9)], .agg [.lit (.int .i64 0), .lit (.int .i64 0)]], .agg [.lit (.bool true), .agg [.lit (.int .i64 0), .lit (.int .i64 255)], .agg [.lit (.int .i64 0), .lit (.int .i64 1)]], .agg [.lit (.bool true), .agg [.lit (.int .i64 1), .lit (.int .i64 1)], .agg [.lit (.int .i64 1), .lit (.int .i64 1)]], .agg [.lit (.bool false), .agg [.lit (.int .i64 1), .lit (.int .i64 1)], .agg [.lit (.int .i64 0), .lit (.int .i64 4095)]], .agg [.lit (.bool false), .agg [.lit (.int .i64 0), .lit (.int .i64 0)], .agg [.lit (.int .i64 1), .lit (.int .i64 4095)]], .agg [.lit (.bool false), .agg [.lit (.int .i64 1), .lit (.int .i64 1)], .agg [.lit (.int .i64 0), .lit (.int .i64 0)]], .agg [.lit (.bool false), .agg [.lit (.int .i64 0), .lit (.int .i64 1024)], .agg [.lit (.int .i64 0), .lit (.int .i64 0)]], .agg [.lit (.bool false), .agg [.lit (.int .i64 0), .lit (.int .i64 0)], .agg [.lit (.int .i64 1), .lit (.int .i64 4095)]]]

/-- 'middenlaw04.ShapeRight': WHATEVER THE INPUT: true; the input reads as it did. -/
def shapeRightSpec : ChangeSpec := { name := "shapeRight", fn := fun _ => fun
  | [d] => { results := [.lit (.bool true)], args := [d] }
  | _ => none }
def shapeRightRow : OpenClaim := { program := "ytdiibckplkkkkaadoor", sum := "ac5694b89c37cbfdb5a0ddbd4a703830f88d537c45521332eabc627458f146a2", func := "midden/middenlaw04.ShapeRight", spec := "shapeRight", named := ["midden/shape.rows"], apart := false, laid := [("midden/shape.rows", laid_midden_shape_rows)] }
def ShapeRightSaid : Prop := shapeRightRow.holds Tryd.pinned (OpenSpec.ofChange shapeRightSpec)

/-- ITS FALSE NEIGHBOUR: 'it returns false'. Refute it at one input. -/
def shapeRightWrong : ChangeSpec := { name := "shapeRight", fn := fun _ => fun
  | [d] => { results := [.lit (.bool false)], args := [d] }
  | _ => none }
def ShapeRightWrongFalsely : Prop := shapeRightRow.holds Tryd.pinned (OpenSpec.ofChange shapeRightWrong)

/-- 'middenlaw04.ShapeKinds': WHATEVER THE INPUT: true; the input reads as it did. -/
def shapeKindsSpec : ChangeSpec := { name := "shapeKinds", fn := fun _ => fun
  | [d] => { results := [.lit (.bool true)], args := [d] }
  | _ => none }
def shapeKindsRow : OpenClaim := { program := "ytdiibckplkkkkaadoor", sum := "ac5694b89c37cbfdb5a0ddbd4a703830f88d537c45521332eabc627458f146a2", func := "midden/middenlaw04.ShapeKinds", spec := "shapeKinds", named := ["midden/shape.rows"], apart := false, laid := [("midden/shape.rows", laid_midden_shape_rows)] }
def ShapeKindsSaid : Prop := shapeKindsRow.holds Tryd.pinned (OpenSpec.ofChange shapeKindsSpec)

/-- ITS FALSE NEIGHBOUR: 'it returns false'. Refute it at one input. -/
def shapeKindsWrong : ChangeSpec := { name := "shapeKinds", fn := fun _ => fun
  | [d] => { results := [.lit (.bool false)], args := [d] }
  | _ => none }
def ShapeKindsWrongFalsely : Prop := shapeKindsRow.holds Tryd.pinned (OpenSpec.ofChange shapeKindsWrong)

/-- 'middenlaw04.ShapeOver': WHATEVER THE INPUT: true; the input reads as it did. -/
def shapeOverSpec : ChangeSpec := { name := "shapeOver", fn := fun _ => fun
  | [d1, d2] => { results := [.lit (.bool true)], args := [d1, d2] }
  | _ => none }
def shapeOverRow : OpenClaim := { program := "ytdiibckplkkkkaadoor", sum := "ac5694b89c37cbfdb5a0ddbd4a703830f88d537c45521332eabc627458f146a2", func := "midden/middenlaw04.ShapeOver", spec := "shapeOver", named := ["midden/shape.rows"], apart := false, laid := [("midden/shape.rows", laid_midden_shape_rows)] }
def ShapeOverSaid : Prop := shapeOverRow.holds Tryd.pinned (OpenSpec.ofChange shapeOverSpec)

/-- ITS FALSE NEIGHBOUR: 'it returns false'. Refute it at one input. -/
def shapeOverWrong : ChangeSpec := { name := "shapeOver", fn := fun _ => fun
  | [d1, d2] => { results := [.lit (.bool false)], args := [d1, d2] }
  | _ => none }
def ShapeOverWrongFalsely : Prop := shapeOverRow.holds Tryd.pinned (OpenSpec.ofChange shapeOverWrong)

/-- 'middenlaw04.ShapeStays': WHATEVER THE INPUT: true; the input reads as it did. -/
def shapeStaysSpec : ChangeSpec := { name := "shapeStays", fn := fun _ => fun
  | [d1, d2, d3] => { results := [.lit (.bool true)], args := [d1, d2, d3] }
  | _ => none }
def shapeStaysRow : OpenClaim := { program := "ytdiibckplkkkkaadoor", sum := "ac5694b89c37cbfdb5a0ddbd4a703830f88d537c45521332eabc627458f146a2", func := "midden/middenlaw04.ShapeStays", spec := "shapeStays", named := ["midden/shape.rows"], apart := false, laid := [("midden/shape.rows", laid_midden_shape_rows)] }
def ShapeStaysSaid : Prop := shapeStaysRow.holds Tryd.pinned (OpenSpec.ofChange shapeStaysSpec)

/-- ITS FALSE NEIGHBOUR: 'it returns false'. Refute it at one input. -/
def shapeStaysWrong : ChangeSpec := { name := "shapeStays", fn := fun _ => fun
  | [d1, d2, d3] => { results := [.lit (.bool false)], args := [d1, d2, d3] }
  | _ => none }
def ShapeStaysWrongFalsely : Prop := shapeStaysRow.holds Tryd.pinned (OpenSpec.ofChange shapeStaysWrong)

/-- 'middenlaw04.ShapePointers': WHATEVER THE INPUT: true; the input reads as it did. -/
def shapePointersSpec : ChangeSpec := { name := "shapePointers", fn := fun _ => fun
  | [d1, d2] => { results := [.lit (.bool true)], args := [d1, d2] }
  | _ => none }
def shapePointersRow : OpenClaim := { program := "ytdiibckplkkkkaadoor", sum := "ac5694b89c37cbfdb5a0ddbd4a703830f88d537c45521332eabc627458f146a2", func := "midden/middenlaw04.ShapePointers", spec := "shapePointers", unfollowed := true, recurses := true, named := ["midden/shape.rows"], apart := false, laid := [("midden/shape.rows", laid_midden_shape_rows)] }
def ShapePointersSaid : Prop := shapePointersRow.holds Tryd.pinned (OpenSpec.ofChange shapePointersSpec)

/-- ITS FALSE NEIGHBOUR: 'it returns false'. Refute it at one input. -/
def shapePointersWrong : ChangeSpec := { name := "shapePointers", fn := fun _ => fun
  | [d1, d2] => { results := [.lit (.bool false)], args := [d1, d2] }
  | _ => none }
def ShapePointersWrongFalsely : Prop := shapePointersRow.holds Tryd.pinned (OpenSpec.ofChange shapePointersWrong)

/- THE SECOND FORM. 'bulk': how many values and letters a reading holds, each counted each time it is reached (what is shared counts as often as it is met; a slice's spare places count too). A statement '..UptoSaid' is the law's where the arguments, and the package variables that the reading takes, are together of bulk at most 1048576: NARROWER than '..Said'. Prove '..Said' where nothing that the law and all that it calls make is longer than what came in: it says more and counts as full. Else prove '..UptoSaid'. A law counts once. -/
mutual
def uptoBulk {H : Type} : DataW H → Nat
  | .lit (.string bytes) => bytes.length + 1
  | .lit _ => 1
  | .nil => 1
  | .ptr d => uptoBulk d + 1
  | .slice elems spare => uptoBulkAll elems + uptoBulkAll spare + 1
  | .agg parts => uptoBulkAll parts + 1
  | .iface _ d => uptoBulk d + 1
  | .map entries => uptoBulkEntries entries + 1
  | .held _ => 1
def uptoBulkAll {H : Type} : List (DataW H) → Nat
  | [] => 0
  | d :: r => uptoBulk d + uptoBulkAll r
def uptoBulkEntries {H : Type} : List (Lit × DataW H) → Nat
  | [] => 0
  | x :: r => uptoBulkEntry x + uptoBulkEntries r
def uptoBulkEntry {H : Type} : Lit × DataW H → Nat
  | (.string bytes, d) => bytes.length + uptoBulk d + 1
  | (_, d) => uptoBulk d + 1
 end
def uptoSmall : (H : Type) → List (DataW H) → Bool := fun _ ds => decide (uptoBulkAll ds ≤ 1048576)
def OpenSpec.upto (s : _root_.Go.ChangeSpec) : _root_.Go.OpenSpec := { _root_.Go.OpenSpec.ofChange s with cond := some uptoSmall }

/-- 'middenlaw04.ShapeRight', WHERE WHAT IT READS IS OF BULK AT MOST 1048576: true; the input reads as it did. -/
def shapeRightUptoRow : OpenClaim := { program := "ytdiibckplkkkkaadoor", sum := "ac5694b89c37cbfdb5a0ddbd4a703830f88d537c45521332eabc627458f146a2", func := "midden/middenlaw04.ShapeRight", spec := "shapeRight", named := ["midden/shape.rows"], apart := false, laid := [("midden/shape.rows", laid_midden_shape_rows)], narrowed := true }
def ShapeRightUptoSaid : Prop := shapeRightUptoRow.holds Tryd.pinned (OpenSpec.upto shapeRightSpec)

/-- 'middenlaw04.ShapeKinds', WHERE WHAT IT READS IS OF BULK AT MOST 1048576: true; the input reads as it did. -/
def shapeKindsUptoRow : OpenClaim := { program := "ytdiibckplkkkkaadoor", sum := "ac5694b89c37cbfdb5a0ddbd4a703830f88d537c45521332eabc627458f146a2", func := "midden/middenlaw04.ShapeKinds", spec := "shapeKinds", named := ["midden/shape.rows"], apart := false, laid := [("midden/shape.rows", laid_midden_shape_rows)], narrowed := true }
def ShapeKindsUptoSaid : Prop := shapeKindsUptoRow.holds Tryd.pinned (OpenSpec.upto shapeKindsSpec)

/-- 'middenlaw04.ShapeOver', WHERE WHAT IT READS IS OF BULK AT MOST 1048576: true; the input reads as it did. -/
def shapeOverUptoRow : OpenClaim := { program := "ytdiibckplkkkkaadoor", sum := "ac5694b89c37cbfdb5a0ddbd4a703830f88d537c45521332eabc627458f146a2", func := "midden/middenlaw04.ShapeOver", spec := "shapeOver", named := ["midden/shape.rows"], apart := false, laid := [("midden/shape.rows", laid_midden_shape_rows)], narrowed := true }
def ShapeOverUptoSaid : Prop := shapeOverUptoRow.holds Tryd.pinned (OpenSpec.upto shapeOverSpec)

/-- 'middenlaw04.ShapeStays', WHERE WHAT IT READS IS OF BULK AT MOST 1048576: true; the input reads as it did. -/
def shapeStaysUptoRow : OpenClaim := { program := "ytdiibckplkkkkaadoor", sum := "ac5694b89c37cbfdb5a0ddbd4a703830f88d537c45521332eabc627458f146a2", func := "midden/middenlaw04.ShapeStays", spec := "shapeStays", named := ["midden/shape.rows"], apart := false, laid := [("midden/shape.rows", laid_midden_shape_rows)], narrowed := true }
def ShapeStaysUptoSaid : Prop := shapeStaysUptoRow.holds Tryd.pinned (OpenSpec.upto shapeStaysSpec)

/-- 'middenlaw04.ShapePointers', WHERE WHAT IT READS IS OF BULK AT MOST 1048576: true; the input reads as it did. -/
def shapePointersUptoRow : OpenClaim := { program := "ytdiibckplkkkkaadoor", sum := "ac5694b89c37cbfdb5a0ddbd4a703830f88d537c45521332eabc627458f146a2", func := "midden/middenlaw04.ShapePointers", spec := "shapePointers", unfollowed := true, recurses := true, named := ["midden/shape.rows"], apart := false, laid := [("midden/shape.rows", laid_midden_shape_rows)], narrowed := true }
def ShapePointersUptoSaid : Prop := shapePointersUptoRow.holds Tryd.pinned (OpenSpec.upto shapePointersSpec)

end Rows
end Go.Proofs.YtdiibckplkkkkaaDoor
