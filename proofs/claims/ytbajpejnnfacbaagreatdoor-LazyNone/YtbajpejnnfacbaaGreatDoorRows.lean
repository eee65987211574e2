/-
  NARROWER THAN 'FOR EVERY INPUT', by the rows' own cells (each row's printed sentence says how): LazyMore: loops, laid · LazyOnce: loops, laid · LazyNames: loops, laid · LazyNone: laid.
  DERIVED. THE GIVEN ROWS OF THIS SEAT. 4 by the template 'for every input the law returns true; each argument reads behind the call as it read before'; 0 by the template 'total and deterministic' (their statements: YtbajpejnnfacbaaGreatDoorTotals.lean).
  GIVEN WITH THE SEED: the statements are not yours to turn. If you find one false, say at which input.
  Laid BY PROGRAM, IN A SANDBOX (cutbox-rows.mjs): the forced cells as the released guide's own fill.sh prints them over the translation 2e5940b56d081691… (all of the seat's roots in one cut). By AI agents, Wed Nov 11 2026. No macro, syntax, notation, axiom, sorry.
-/
import Derived.Test.YtbajpejnnfacbaaGreatDoorChecked
import GoSem.Claim
import GoSem.ClaimJoined
import GoSem.ClaimMapViews
import Derived.JoinedTies
import Derived.KernelRfl
namespace Go.Proofs.YtbajpejnnfacbaaGreatDoor
/- THE CELL 'sum', in the pinned program and in every row, IS THE sha256 OF THE DUMP (.gsa) THAT YtbajpejnnfacbaaGreatDoorProg.lean LOADS. Nothing in Lean hashes anything: it is a label: what it is worth is what the hold of that sum in a sandbox is worth. -/
noncomputable def Tryz.pinned : Pinned := { name := "ytbajpejnnfacbaagreatdoor", sum := "2e5940b56d0816911f58844f7c26bdf659bc32b52306718c604e8908e1515891", checked := Tryz.checked }
namespace Rows
def none {H : Type} : Left H := { results := [], args := [] }

/- WHAT THE LISTED PACKAGE-LEVEL VARIABLES READ AS WHEN THE CALL BEGINS. Each datum BY PROGRAM (the guide's laid-datum.mjs) off the statement by which the dump's own 'gosem.cut.vars' lays the variable. In a bare row this is a premise. The card (YtbajpejnnfacbaaGreatDoorCards.lean) ties it to the program's text. -/
def laid_midden_prim_rows {H : Type} : DataW H := .agg [.agg [.lit (.string []), .lit (.int .i64 0), .agg [.lit (.int .i64 0), .lit (.int .i64 0), .lit (.int .i64 0)]], .agg [.lit (.string [35, 97, 100, 100]), .lit (.int .i64 2), .agg [.lit (.int .i64 2), .lit (.int .i64 2), .lit (.int .i64 0)]], .agg [.lit (.string [35, 115, 117, 98]), .lit (.int .i64 2), .agg [.lit (.int .i64 2), .lit (.int .i64 2), .lit (.int .i64 0)]], .agg [.lit (.string [35, 109, 117, 108]), .lit (.int .i64 2), .agg [.lit (.int .i64 2), .lit (.int .i64 2), .lit (.int .i64 0)]], .agg [.lit (.string [35, 100, 105, 118]), .lit (.int .i64 2), .agg [.lit (.int .i64 2), .lit (.int .i64 2), .lit (.int .i64 0)]], .agg [.lit (.string [35, 114, 101, 109]), .lit (.int .i64 2), .agg [.lit (.int .i64 2), .lit (.int .i64 2), .lit (.int .i64 0)]], .agg [.lit (.string [35, 101, 113]), .lit (.int .i64 2), .agg [.lit (.int .i64 2), .lit (.int .i64 2), .lit (.int .i64 0)]], .agg [.lit (.string [35, 108, 116]), .lit (.int .i64 2), .agg [.lit (.int .i64 2), .lit (.int .i64 2), .lit (.int .i64 0)]], .agg [.lit (.string [35, 101, 109, 105, 116]), .lit (.int .i64 1), .agg [.lit (.int .i64 2), .lit (.int .i64 0), .lit (.int .i64 0)]], .agg [.lit (.string [35, 115, 101, 113]), .lit (.int .i64 2), .agg [.lit (.int .i64 1), .lit (.int .i64 0), .lit (.int .i64 0)]], .agg [.lit (.string [35, 114, 101, 102]), .lit (.int .i64 1), .agg [.lit (.int .i64 0), .lit (.int .i64 0), .lit (.int .i64 0)]], .agg [.lit (.string [35, 103, 101, 116]), .lit (.int .i64 1), .agg [.lit (.int .i64 3), .lit (.int .i64 0), .lit (.int .i64 0)]], .agg [.lit (.string [35, 115, 101, 116]), .lit (.int .i64 2), .agg [.lit (.int .i64 3), .lit (.int .i64 0), .lit (.int .i64 0)]], .agg [.lit (.string [35, 97, 114, 114]), .lit (.int .i64 2), .agg [.lit (.int .i64 2), .lit (.int .i64 0), .lit (.int .i64 0)]], .agg [.lit (.string [35, 97, 116]), .lit (.int .i64 2), .agg [.lit (.int .i64 4), .lit (.int .i64 2), .lit (.int .i64 0)]], .agg [.lit (.string [35, 112, 117, 116]), .lit (.int .i64 3), .agg [.lit (.int .i64 4), .lit (.int .i64 2), .lit (.int .i64 0)]], .agg [.lit (.string [35, 108, 101, 110]), .lit (.int .i64 1), .agg [.lit (.int .i64 4), .lit (.int .i64 0), .lit (.int .i64 0)]]]

/-- 'middenlaw11.LazyMore': WHATEVER THE INPUT: true; the input reads as it did. -/
def lazyMoreSpec : ChangeSpec := { name := "lazyMore", fn := fun _ => fun
  | [d1, d2, d3] => { results := [.lit (.bool true)], args := [d1, d2, d3] }
  | _ => none }
def lazyMoreRow : OpenClaim := { program := "ytbajpejnnfacbaagreatdoor", sum := "2e5940b56d0816911f58844f7c26bdf659bc32b52306718c604e8908e1515891", func := "midden/middenlaw11.LazyMore", spec := "lazyMore", unfollowed := true, recurses := true, named := ["midden/prim.rows"], loops := true, plainKeys := false, apart := false, laid := [("midden/prim.rows", laid_midden_prim_rows)] }
def LazyMoreSaid : Prop := lazyMoreRow.holds Tryz.pinned (OpenSpec.ofChange lazyMoreSpec)

/-- ITS FALSE NEIGHBOUR: 'it returns false'. Refute it at one input. -/
def lazyMoreWrong : ChangeSpec := { name := "lazyMore", fn := fun _ => fun
  | [d1, d2, d3] => { results := [.lit (.bool false)], args := [d1, d2, d3] }
  | _ => none }
def LazyMoreWrongFalsely : Prop := lazyMoreRow.holds Tryz.pinned (OpenSpec.ofChange lazyMoreWrong)

/-- 'middenlaw11.LazyOnce': WHATEVER THE INPUT: true; the input reads as it did. -/
def lazyOnceSpec : ChangeSpec := { name := "lazyOnce", fn := fun _ => fun
  | [d1, d2, d3] => { results := [.lit (.bool true)], args := [d1, d2, d3] }
  | _ => none }
def lazyOnceRow : OpenClaim := { program := "ytbajpejnnfacbaagreatdoor", sum := "2e5940b56d0816911f58844f7c26bdf659bc32b52306718c604e8908e1515891", func := "midden/middenlaw11.LazyOnce", spec := "lazyOnce", unfollowed := true, recurses := true, named := ["midden/prim.rows"], loops := true, plainKeys := false, apart := false, laid := [("midden/prim.rows", laid_midden_prim_rows)] }
def LazyOnceSaid : Prop := lazyOnceRow.holds Tryz.pinned (OpenSpec.ofChange lazyOnceSpec)

/-- ITS FALSE NEIGHBOUR: 'it returns false'. Refute it at one input. -/
def lazyOnceWrong : ChangeSpec := { name := "lazyOnce", fn := fun _ => fun
  | [d1, d2, d3] => { results := [.lit (.bool false)], args := [d1, d2, d3] }
  | _ => none }
def LazyOnceWrongFalsely : Prop := lazyOnceRow.holds Tryz.pinned (OpenSpec.ofChange lazyOnceWrong)

/-- 'middenlaw11.LazyNames': WHATEVER THE INPUT: true; the input reads as it did. -/
def lazyNamesSpec : ChangeSpec := { name := "lazyNames", fn := fun _ => fun
  | [d1, d2, d3] => { results := [.lit (.bool true)], args := [d1, d2, d3] }
  | _ => none }
def lazyNamesRow : OpenClaim := { program := "ytbajpejnnfacbaagreatdoor", sum := "2e5940b56d0816911f58844f7c26bdf659bc32b52306718c604e8908e1515891", func := "midden/middenlaw11.LazyNames", spec := "lazyNames", unfollowed := true, recurses := true, named := ["midden/prim.rows"], loops := true, plainKeys := false, apart := false, laid := [("midden/prim.rows", laid_midden_prim_rows)] }
def LazyNamesSaid : Prop := lazyNamesRow.holds Tryz.pinned (OpenSpec.ofChange lazyNamesSpec)

/-- ITS FALSE NEIGHBOUR: 'it returns false'. Refute it at one input. -/
def lazyNamesWrong : ChangeSpec := { name := "lazyNames", fn := fun _ => fun
  | [d1, d2, d3] => { results := [.lit (.bool false)], args := [d1, d2, d3] }
  | _ => none }
def LazyNamesWrongFalsely : Prop := lazyNamesRow.holds Tryz.pinned (OpenSpec.ofChange lazyNamesWrong)

/-- 'middenlaw11.LazyNone': WHATEVER THE INPUT: true; the input reads as it did. -/
def lazyNoneSpec : ChangeSpec := { name := "lazyNone", fn := fun _ => fun
  | [d] => { results := [.lit (.bool true)], args := [d] }
  | _ => none }
def lazyNoneRow : OpenClaim := { program := "ytbajpejnnfacbaagreatdoor", sum := "2e5940b56d0816911f58844f7c26bdf659bc32b52306718c604e8908e1515891", func := "midden/middenlaw11.LazyNone", spec := "lazyNone", unfollowed := true, recurses := true, named := ["midden/prim.rows"], plainKeys := false, apart := false, laid := [("midden/prim.rows", laid_midden_prim_rows)] }
def LazyNoneSaid : Prop := lazyNoneRow.holds Tryz.pinned (OpenSpec.ofChange lazyNoneSpec)

/-- ITS FALSE NEIGHBOUR: 'it returns false'. Refute it at one input. -/
def lazyNoneWrong : ChangeSpec := { name := "lazyNone", fn := fun _ => fun
  | [d] => { results := [.lit (.bool false)], args := [d] }
  | _ => none }
def LazyNoneWrongFalsely : Prop := lazyNoneRow.holds Tryz.pinned (OpenSpec.ofChange lazyNoneWrong)

/- THE SECOND FORM. 'bulk': how many values and letters a reading holds, each counted each time it is reached (what is shared counts as often as it is met; a slice's spare places count too). A statement '..UptoSaid' is the law's where the arguments, and the package variables that the reading takes, are together of bulk at most 1048576: NARROWER than '..Said'. Prove '..Said' where nothing that the law and all that it calls make is longer than what came in: it says more and counts as full. Else prove '..UptoSaid'. A law counts once. -/
mutual
def uptoBulk {H : Type} : DataW H → Nat
  | .lit (.string bytes) => bytes.length + 1
  | .lit _ => 1
  | .nil => 1
  | .ptr d => uptoBulk d + 1
  | .slice elems spare => uptoBulkAll elems + uptoBulkAll spare + 1
  | .agg parts => uptoBulkAll parts + 1
  | .iface _ d => uptoBulk d + 1
  | .map entries => uptoBulkEntries entries + 1
  | .held _ => 1
def uptoBulkAll {H : Type} : List (DataW H) → Nat
  | [] => 0
  | d :: r => uptoBulk d + uptoBulkAll r
def uptoBulkEntries {H : Type} : List (Lit × DataW H) → Nat
  | [] => 0
  | x :: r => uptoBulkEntry x + uptoBulkEntries r
def uptoBulkEntry {H : Type} : Lit × DataW H → Nat
  | (.string bytes, d) => bytes.length + uptoBulk d + 1
  | (_, d) => uptoBulk d + 1
 end
def uptoSmall : (H : Type) → List (DataW H) → Bool := fun _ ds => decide (uptoBulkAll ds ≤ 1048576)
def OpenSpec.upto (s : _root_.Go.ChangeSpec) : _root_.Go.OpenSpec := { _root_.Go.OpenSpec.ofChange s with cond := some uptoSmall }

/-- 'middenlaw11.LazyMore', WHERE WHAT IT READS IS OF BULK AT MOST 1048576: true; the input reads as it did. -/
def lazyMoreUptoRow : OpenClaim := { program := "ytbajpejnnfacbaagreatdoor", sum := "2e5940b56d0816911f58844f7c26bdf659bc32b52306718c604e8908e1515891", func := "midden/middenlaw11.LazyMore", spec := "lazyMore", unfollowed := true, recurses := true, named := ["midden/prim.rows"], loops := true, plainKeys := false, apart := false, laid := [("midden/prim.rows", laid_midden_prim_rows)], narrowed := true }
def LazyMoreUptoSaid : Prop := lazyMoreUptoRow.holds Tryz.pinned (OpenSpec.upto lazyMoreSpec)

/-- 'middenlaw11.LazyOnce', WHERE WHAT IT READS IS OF BULK AT MOST 1048576: true; the input reads as it did. -/
def lazyOnceUptoRow : OpenClaim := { program := "ytbajpejnnfacbaagreatdoor", sum := "2e5940b56d0816911f58844f7c26bdf659bc32b52306718c604e8908e1515891", func := "midden/middenlaw11.LazyOnce", spec := "lazyOnce", unfollowed := true, recurses := true, named := ["midden/prim.rows"], loops := true, plainKeys := false, apart := false, laid := [("midden/prim.rows", laid_midden_prim_rows)], narrowed := true }
def LazyOnceUptoSaid : Prop := lazyOnceUptoRow.holds Tryz.pinned (OpenSpec.upto lazyOnceSpec)

/-- 'middenlaw11.LazyNames', WHERE WHAT IT READS IS OF BULK AT MOST 1048576: true; the input reads as it did. -/
def lazyNamesUptoRow : OpenClaim := { program := "ytbajpejnnfacbaagreatdoor", sum := "2e5940b56d0816911f58844f7c26bdf659bc32b52306718c604e8908e1515891", func := "midden/middenlaw11.LazyNames", spec := "lazyNames", unfollowed := true, recurses := true, named := ["midden/prim.rows"], loops := true, plainKeys := false, apart := false, laid := [("midden/prim.rows", laid_midden_prim_rows)], narrowed := true }
def LazyNamesUptoSaid : Prop := lazyNamesUptoRow.holds Tryz.pinned (OpenSpec.upto lazyNamesSpec)

/-- 'middenlaw11.LazyNone', WHERE WHAT IT READS IS OF BULK AT MOST 1048576: true; the input reads as it did. -/
def lazyNoneUptoRow : OpenClaim := { program := "ytbajpejnnfacbaagreatdoor", sum := "2e5940b56d0816911f58844f7c26bdf659bc32b52306718c604e8908e1515891", func := "midden/middenlaw11.LazyNone", spec := "lazyNone", unfollowed := true, recurses := true, named := ["midden/prim.rows"], plainKeys := false, apart := false, laid := [("midden/prim.rows", laid_midden_prim_rows)], narrowed := true }
def LazyNoneUptoSaid : Prop := lazyNoneUptoRow.holds Tryz.pinned (OpenSpec.upto lazyNoneSpec)

end Rows
end Go.Proofs.YtbajpejnnfacbaaGreatDoor
