/-
  NARROWER THAN 'FOR EVERY INPUT', by the rows' own cells (each row's printed sentence says how): BlocksMend: laid · BlocksBack: laid · ReportMakes: laid · ReportMissing: laid · ReportSegments: laid · ReportLies: laid.
  DERIVED. THE GIVEN ROWS OF THIS SEAT. 6 by the template 'for every input the law returns true; each argument reads behind the call as it read before'; 0 by the template 'total and deterministic' (their statements: YtkkmoplijicmpaeDoorTotals.lean).
  GIVEN WITH THE SEED: the statements are not yours to turn. If you find one false, say at which input.
  Laid BY PROGRAM, IN A SANDBOX (cutbox-rows.mjs): the forced cells as the released guide's own fill.sh prints them over the translation cd5f141cecc009aa… (all of the seat's roots in one cut). By AI agents, Wed Nov 11 2026. No macro, syntax, notation, axiom, sorry.
-/
import Derived.Test.YtkkmoplijicmpaeDoorChecked
import GoSem.Claim
import GoSem.ClaimJoined
import GoSem.ClaimMapViews
import Derived.JoinedTies
import Derived.KernelRfl
namespace Go.Proofs.YtkkmoplijicmpaeDoor
/- THE CELL 'sum', in the pinned program and in every row, IS THE sha256 OF THE DUMP (.gsa) THAT YtkkmoplijicmpaeDoorProg.lean LOADS. Nothing in Lean hashes anything: it is a label: what it is worth is what the hold of that sum in a sandbox is worth. -/
noncomputable def Tryd.pinned : Pinned := { name := "ytkkmoplijicmpaedoor", sum := "cd5f141cecc009aaad9d57e48b837b412ec2f61ce40d85a5801d6167f4d26c85", checked := Tryd.checked }
namespace Rows
def none {H : Type} : Left H := { results := [], args := [] }

/- WHAT THE LISTED PACKAGE-LEVEL VARIABLES READ AS WHEN THE CALL BEGINS. Each datum BY PROGRAM (the guide's laid-datum.mjs) off the statement by which the dump's own 'gosem.cut.vars' lays the variable. In a bare row this is a premise. The card (YtkkmoplijicmpaeDoorCards.lean) ties it to the program's text. -/
def laid_lantern_segment_shapes {H : Type} : DataW H := .agg [.lit (.int .u8 3), .lit (.int .u8 7), .lit (.int .u8 7), .lit (.int .u8 7), .lit (.int .u8 3), .lit (.int .u8 0), .lit (.int .u8 0), .lit (.int .u8 3), .lit (.int .u8 9), .lit (.int .u8 17), .lit (.int .u8 0), .lit (.int .u8 0), .lit (.int .u8 33), .lit (.int .u8 1), .lit (.int .u8 33), .lit (.int .u8 1)]

/-- 'lanternlaw04.BlocksMend': WHATEVER THE INPUT: true; the input reads as it did. -/
def blocksMendSpec : ChangeSpec := { name := "blocksMend", fn := fun _ => fun
  | [d] => { results := [.lit (.bool true)], args := [d] }
  | _ => none }
def blocksMendRow : OpenClaim := { program := "ytkkmoplijicmpaedoor", sum := "cd5f141cecc009aaad9d57e48b837b412ec2f61ce40d85a5801d6167f4d26c85", func := "lantern/lanternlaw04.BlocksMend", spec := "blocksMend", unfollowed := true, recurses := true, named := ["lantern/segment.shapes"], apart := false, laid := [("lantern/segment.shapes", laid_lantern_segment_shapes)] }
def BlocksMendSaid : Prop := blocksMendRow.holds Tryd.pinned (OpenSpec.ofChange blocksMendSpec)

/-- ITS FALSE NEIGHBOUR: 'it returns false'. Refute it at one input. -/
def blocksMendWrong : ChangeSpec := { name := "blocksMend", fn := fun _ => fun
  | [d] => { results := [.lit (.bool false)], args := [d] }
  | _ => none }
def BlocksMendWrongFalsely : Prop := blocksMendRow.holds Tryd.pinned (OpenSpec.ofChange blocksMendWrong)

/-- 'lanternlaw04.BlocksBack': WHATEVER THE INPUT: true; the input reads as it did. -/
def blocksBackSpec : ChangeSpec := { name := "blocksBack", fn := fun _ => fun
  | [d] => { results := [.lit (.bool true)], args := [d] }
  | _ => none }
def blocksBackRow : OpenClaim := { program := "ytkkmoplijicmpaedoor", sum := "cd5f141cecc009aaad9d57e48b837b412ec2f61ce40d85a5801d6167f4d26c85", func := "lantern/lanternlaw04.BlocksBack", spec := "blocksBack", unfollowed := true, recurses := true, named := ["lantern/segment.shapes"], apart := false, laid := [("lantern/segment.shapes", laid_lantern_segment_shapes)] }
def BlocksBackSaid : Prop := blocksBackRow.holds Tryd.pinned (OpenSpec.ofChange blocksBackSpec)

/-- ITS FALSE NEIGHBOUR: 'it returns false'. Refute it at one input. -/
def blocksBackWrong : ChangeSpec := { name := "blocksBack", fn := fun _ => fun
  | [d] => { results := [.lit (.bool false)], args := [d] }
  | _ => none }
def BlocksBackWrongFalsely : Prop := blocksBackRow.holds Tryd.pinned (OpenSpec.ofChange blocksBackWrong)

/-- 'lanternlaw05.ReportMakes': WHATEVER THE INPUT: true; the input reads as it did. -/
def reportMakesSpec : ChangeSpec := { name := "reportMakes", fn := fun _ => fun
  | [d1, d2, d3] => { results := [.lit (.bool true)], args := [d1, d2, d3] }
  | _ => none }
def reportMakesRow : OpenClaim := { program := "ytkkmoplijicmpaedoor", sum := "cd5f141cecc009aaad9d57e48b837b412ec2f61ce40d85a5801d6167f4d26c85", func := "lantern/lanternlaw05.ReportMakes", spec := "reportMakes", unfollowed := true, recurses := true, named := ["lantern/segment.shapes"], apart := false, laid := [("lantern/segment.shapes", laid_lantern_segment_shapes)] }
def ReportMakesSaid : Prop := reportMakesRow.holds Tryd.pinned (OpenSpec.ofChange reportMakesSpec)

/-- ITS FALSE NEIGHBOUR: 'it returns false'. Refute it at one input. -/
def reportMakesWrong : ChangeSpec := { name := "reportMakes", fn := fun _ => fun
  | [d1, d2, d3] => { results := [.lit (.bool false)], args := [d1, d2, d3] }
  | _ => none }
def ReportMakesWrongFalsely : Prop := reportMakesRow.holds Tryd.pinned (OpenSpec.ofChange reportMakesWrong)

/-- 'lanternlaw05.ReportMissing': WHATEVER THE INPUT: true; the input reads as it did. -/
def reportMissingSpec : ChangeSpec := { name := "reportMissing", fn := fun _ => fun
  | [d1, d2, d3, d4] => { results := [.lit (.bool true)], args := [d1, d2, d3, d4] }
  | _ => none }
def reportMissingRow : OpenClaim := { program := "ytkkmoplijicmpaedoor", sum := "cd5f141cecc009aaad9d57e48b837b412ec2f61ce40d85a5801d6167f4d26c85", func := "lantern/lanternlaw05.ReportMissing", spec := "reportMissing", unfollowed := true, recurses := true, named := ["lantern/segment.shapes"], apart := false, laid := [("lantern/segment.shapes", laid_lantern_segment_shapes)] }
def ReportMissingSaid : Prop := reportMissingRow.holds Tryd.pinned (OpenSpec.ofChange reportMissingSpec)

/-- ITS FALSE NEIGHBOUR: 'it returns false'. Refute it at one input. -/
def reportMissingWrong : ChangeSpec := { name := "reportMissing", fn := fun _ => fun
  | [d1, d2, d3, d4] => { results := [.lit (.bool false)], args := [d1, d2, d3, d4] }
  | _ => none }
def ReportMissingWrongFalsely : Prop := reportMissingRow.holds Tryd.pinned (OpenSpec.ofChange reportMissingWrong)

/-- 'lanternlaw05.ReportSegments': WHATEVER THE INPUT: true; the input reads as it did. -/
def reportSegmentsSpec : ChangeSpec := { name := "reportSegments", fn := fun _ => fun
  | [d1, d2, d3] => { results := [.lit (.bool true)], args := [d1, d2, d3] }
  | _ => none }
def reportSegmentsRow : OpenClaim := { program := "ytkkmoplijicmpaedoor", sum := "cd5f141cecc009aaad9d57e48b837b412ec2f61ce40d85a5801d6167f4d26c85", func := "lantern/lanternlaw05.ReportSegments", spec := "reportSegments", unfollowed := true, recurses := true, named := ["lantern/segment.shapes"], apart := false, laid := [("lantern/segment.shapes", laid_lantern_segment_shapes)] }
def ReportSegmentsSaid : Prop := reportSegmentsRow.holds Tryd.pinned (OpenSpec.ofChange reportSegmentsSpec)

/-- ITS FALSE NEIGHBOUR: 'it returns false'. Refute it at one input. -/
def reportSegmentsWrong : ChangeSpec := { name := "reportSegments", fn := fun _ => fun
  | [d1, d2, d3] => { results := [.lit (.bool false)], args := [d1, d2, d3] }
  | _ => none }
def ReportSegmentsWrongFalsely : Prop := reportSegmentsRow.holds Tryd.pinned (OpenSpec.ofChange reportSegmentsWrong)

/-- 'lanternlaw05.ReportLies': WHATEVER THE INPUT: true; the input reads as it did. -/
def reportLiesSpec : ChangeSpec := { name := "reportLies", fn := fun _ => fun
  | [d1, d2] => { results := [.lit (.bool true)], args := [d1, d2] }
  | _ => none }
def reportLiesRow : OpenClaim := { program := "ytkkmoplijicmpaedoor", sum := "cd5f141cecc009aaad9d57e48b837b412ec2f61ce40d85a5801d6167f4d26c85", func := "lantern/lanternlaw05.ReportLies", spec := "reportLies", unfollowed := true, recurses := true, named := ["lantern/segment.shapes"], apart := false, laid := [("lantern/segment.shapes", laid_lantern_segment_shapes)] }
def ReportLiesSaid : Prop := reportLiesRow.holds Tryd.pinned (OpenSpec.ofChange reportLiesSpec)

/-- ITS FALSE NEIGHBOUR: 'it returns false'. Refute it at one input. -/
def reportLiesWrong : ChangeSpec := { name := "reportLies", fn := fun _ => fun
  | [d1, d2] => { results := [.lit (.bool false)], args := [d1, d2] }
  | _ => none }
def ReportLiesWrongFalsely : Prop := reportLiesRow.holds Tryd.pinned (OpenSpec.ofChange reportLiesWrong)

/- THE SECOND FORM. 'bulk': how many values and letters a reading holds, each counted each time it is reached (what is shared counts as often as it is met; a slice's spare places count too). A statement '..UptoSaid' is the law's where the arguments, and the package variables that the reading takes, are together of bulk at most 1048576: NARROWER than '..Said'. Prove '..Said' where nothing that the law and all that it calls make is longer than what came in: it says more and counts as full. Else prove '..UptoSaid'. A law counts once. -/
mutual
def uptoBulk {H : Type} : DataW H → Nat
  | .lit (.string bytes) => bytes.length + 1
  | .lit _ => 1
  | .nil => 1
  | .ptr d => uptoBulk d + 1
  | .slice elems spare => uptoBulkAll elems + uptoBulkAll spare + 1
  | .agg parts => uptoBulkAll parts + 1
  | .iface _ d => uptoBulk d + 1
  | .map entries => uptoBulkEntries entries + 1
  | .held _ => 1
def uptoBulkAll {H : Type} : List (DataW H) → Nat
  | [] => 0
  | d :: r => uptoBulk d + uptoBulkAll r
def uptoBulkEntries {H : Type} : List (Lit × DataW H) → Nat
  | [] => 0
  | x :: r => uptoBulkEntry x + uptoBulkEntries r
def uptoBulkEntry {H : Type} : Lit × DataW H → Nat
  | (.string bytes, d) => bytes.length + uptoBulk d + 1
  | (_, d) => uptoBulk d + 1
 end
def uptoSmall : (H : Type) → List (DataW H) → Bool := fun _ ds => decide (uptoBulkAll ds ≤ 1048576)
def OpenSpec.upto (s : _root_.Go.ChangeSpec) : _root_.Go.OpenSpec := { _root_.Go.OpenSpec.ofChange s with cond := some uptoSmall }

/-- 'lanternlaw04.BlocksMend', WHERE WHAT IT READS IS OF BULK AT MOST 1048576: true; the input reads as it did. -/
def blocksMendUptoRow : OpenClaim := { program := "ytkkmoplijicmpaedoor", sum := "cd5f141cecc009aaad9d57e48b837b412ec2f61ce40d85a5801d6167f4d26c85", func := "lantern/lanternlaw04.BlocksMend", spec := "blocksMend", unfollowed := true, recurses := true, named := ["lantern/segment.shapes"], apart := false, laid := [("lantern/segment.shapes", laid_lantern_segment_shapes)], narrowed := true }
def BlocksMendUptoSaid : Prop := blocksMendUptoRow.holds Tryd.pinned (OpenSpec.upto blocksMendSpec)

/-- 'lanternlaw04.BlocksBack', WHERE WHAT IT READS IS OF BULK AT MOST 1048576: true; the input reads as it did. -/
def blocksBackUptoRow : OpenClaim := { program := "ytkkmoplijicmpaedoor", sum := "cd5f141cecc009aaad9d57e48b837b412ec2f61ce40d85a5801d6167f4d26c85", func := "lantern/lanternlaw04.BlocksBack", spec := "blocksBack", unfollowed := true, recurses := true, named := ["lantern/segment.shapes"], apart := false, laid := [("lantern/segment.shapes", laid_lantern_segment_shapes)], narrowed := true }
def BlocksBackUptoSaid : Prop := blocksBackUptoRow.holds Tryd.pinned (OpenSpec.upto blocksBackSpec)

/-- 'lanternlaw05.ReportMakes', WHERE WHAT IT READS IS OF BULK AT MOST 1048576: true; the input reads as it did. -/
def reportMakesUptoRow : OpenClaim := { program := "ytkkmoplijicmpaedoor", sum := "cd5f141cecc009aaad9d57e48b837b412ec2f61ce40d85a5801d6167f4d26c85", func := "lantern/lanternlaw05.ReportMakes", spec := "reportMakes", unfollowed := true, recurses := true, named := ["lantern/segment.shapes"], apart := false, laid := [("lantern/segment.shapes", laid_lantern_segment_shapes)], narrowed := true }
def ReportMakesUptoSaid : Prop := reportMakesUptoRow.holds Tryd.pinned (OpenSpec.upto reportMakesSpec)

/-- 'lanternlaw05.ReportMissing', WHERE WHAT IT READS IS OF BULK AT MOST 1048576: true; the input reads as it did. -/
def reportMissingUptoRow : OpenClaim := { program := "ytkkmoplijicmpaedoor", sum := "cd5f141cecc009aaad9d57e48b837b412ec2f61ce40d85a5801d6167f4d26c85", func := "lantern/lanternlaw05.ReportMissing", spec := "reportMissing", unfollowed := true, recurses := true, named := ["lantern/segment.shapes"], apart := false, laid := [("lantern/segment.shapes", laid_lantern_segment_shapes)], narrowed := true }
def ReportMissingUptoSaid : Prop := reportMissingUptoRow.holds Tryd.pinned (OpenSpec.upto reportMissingSpec)

/-- 'lanternlaw05.ReportSegments', WHERE WHAT IT READS IS OF BULK AT MOST 1048576: true; the input reads as it did. -/
def reportSegmentsUptoRow : OpenClaim := { program := "ytkkmoplijicmpaedoor", sum := "cd5f141cecc009aaad9d57e48b837b412ec2f61ce40d85a5801d6167f4d26c85", func := "lantern/lanternlaw05.ReportSegments", spec := "reportSegments", unfollowed := true, recurses := true, named := ["lantern/segment.shapes"], apart := false, laid := [("lantern/segment.shapes", laid_lantern_segment_shapes)], narrowed := true }
def ReportSegmentsUptoSaid : Prop := reportSegmentsUptoRow.holds Tryd.pinned (OpenSpec.upto reportSegmentsSpec)

/-- 'lanternlaw05.ReportLies', WHERE WHAT IT READS IS OF BULK AT MOST 1048576: true; the input reads as it did. -/
def reportLiesUptoRow : OpenClaim := { program := "ytkkmoplijicmpaedoor", sum := "cd5f141cecc009aaad9d57e48b837b412ec2f61ce40d85a5801d6167f4d26c85", func := "lantern/lanternlaw05.ReportLies", spec := "reportLies", unfollowed := true, recurses := true, named := ["lantern/segment.shapes"], apart := false, laid := [("lantern/segment.shapes", laid_lantern_segment_shapes)], narrowed := true }
def ReportLiesUptoSaid : Prop := reportLiesUptoRow.holds Tryd.pinned (OpenSpec.upto reportLiesSpec)

end Rows
end Go.Proofs.YtkkmoplijicmpaeDoor
