/-
  NARROWER THAN 'FOR EVERY INPUT', by the rows' own cells (each row's printed sentence says how): SegmentPrints: laid · SegmentParses: laid · SegmentBack: laid · SegmentCut: laid · SegmentFirst: laid.
  DERIVED. THE GIVEN ROWS OF THIS SEAT. 5 by the template 'for every input the law returns true; each argument reads behind the call as it read before'; 0 by the template 'total and deterministic' (their statements: YtkkmoplijicmpabDoorTotals.lean).
  GIVEN WITH THE SEED: the statements are not yours to turn. If you find one false, say at which input.
  Laid BY PROGRAM, IN A SANDBOX (cutbox-rows.mjs): the forced cells as the released guide's own fill.sh prints them over the translation e466e6c9c407edcd… (all of the seat's roots in one cut). By AI agents, Wed Nov 11 2026. No macro, syntax, notation, axiom, sorry.
-/
import Derived.Test.YtkkmoplijicmpabDoorChecked
import GoSem.Claim
import GoSem.ClaimJoined
import GoSem.ClaimMapViews
import Derived.JoinedTies
import Derived.KernelRfl
namespace Go.Proofs.YtkkmoplijicmpabDoor
/- THE CELL 'sum', in the pinned program and in every row, IS THE sha256 OF THE DUMP (.gsa) THAT YtkkmoplijicmpabDoorProg.lean LOADS. Nothing in Lean hashes anything: it is a label: what it is worth is what the hold of that sum in a sandbox is worth. -/
noncomputable def Tryd.pinned : Pinned := { name := "ytkkmoplijicmpabdoor", sum := "e466e6c9c407edcde22f7514ccdfe37ffc6c71bff388edb19066bbf3720fda3a", checked := Tryd.checked }
namespace Rows
def none {H : Type} : Left H := { results := [], args := [] }

/- WHAT THE LISTED PACKAGE-LEVEL VARIABLES READ AS WHEN THE CALL BEGINS. Each datum BY PROGRAM (the guide's laid-datum.mjs) off the statement by which the dump's own 'gosem.cut.vars' lays the variable. In a bare row this is a premise. The card (YtkkmoplijicmpabDoorCards.lean) ties it to the program's text. -/
def laid_lantern_segment_shapes {H : Type} : DataW H := .agg [.lit (.int .u8 3), .lit (.int .u8 7), .lit (.int .u8 7), .lit (.int .u8 7), .lit (.int .u8 3), .lit (.int .u8 0), .lit (.int .u8 0), .lit (.int .u8 3), .lit (.int .u8 9), .lit (.int .u8 17), .lit (.int .u8 0), .lit (.int .u8 0), .lit (.int .u8 33), .lit (.int .u8 1), .lit (.int .u8 33), .lit (.int .u8 1)]

/-- 'lanternlaw02.SegmentPrints': WHATEVER THE INPUT: true; the input reads as it did. -/
def segmentPrintsSpec : ChangeSpec := { name := "segmentPrints", fn := fun _ => fun
  | [d1, d2] => { results := [.lit (.bool true)], args := [d1, d2] }
  | _ => none }
def segmentPrintsRow : OpenClaim := { program := "ytkkmoplijicmpabdoor", sum := "e466e6c9c407edcde22f7514ccdfe37ffc6c71bff388edb19066bbf3720fda3a", func := "lantern/lanternlaw02.SegmentPrints", spec := "segmentPrints", named := ["lantern/segment.shapes"], apart := false, laid := [("lantern/segment.shapes", laid_lantern_segment_shapes)] }
def SegmentPrintsSaid : Prop := segmentPrintsRow.holds Tryd.pinned (OpenSpec.ofChange segmentPrintsSpec)

/-- ITS FALSE NEIGHBOUR: 'it returns false'. Refute it at one input. -/
def segmentPrintsWrong : ChangeSpec := { name := "segmentPrints", fn := fun _ => fun
  | [d1, d2] => { results := [.lit (.bool false)], args := [d1, d2] }
  | _ => none }
def SegmentPrintsWrongFalsely : Prop := segmentPrintsRow.holds Tryd.pinned (OpenSpec.ofChange segmentPrintsWrong)

/-- 'lanternlaw02.SegmentParses': WHATEVER THE INPUT: true; the input reads as it did. -/
def segmentParsesSpec : ChangeSpec := { name := "segmentParses", fn := fun _ => fun
  | [d1, d2] => { results := [.lit (.bool true)], args := [d1, d2] }
  | _ => none }
def segmentParsesRow : OpenClaim := { program := "ytkkmoplijicmpabdoor", sum := "e466e6c9c407edcde22f7514ccdfe37ffc6c71bff388edb19066bbf3720fda3a", func := "lantern/lanternlaw02.SegmentParses", spec := "segmentParses", named := ["lantern/segment.shapes"], apart := false, laid := [("lantern/segment.shapes", laid_lantern_segment_shapes)] }
def SegmentParsesSaid : Prop := segmentParsesRow.holds Tryd.pinned (OpenSpec.ofChange segmentParsesSpec)

/-- ITS FALSE NEIGHBOUR: 'it returns false'. Refute it at one input. -/
def segmentParsesWrong : ChangeSpec := { name := "segmentParses", fn := fun _ => fun
  | [d1, d2] => { results := [.lit (.bool false)], args := [d1, d2] }
  | _ => none }
def SegmentParsesWrongFalsely : Prop := segmentParsesRow.holds Tryd.pinned (OpenSpec.ofChange segmentParsesWrong)

/-- 'lanternlaw02.SegmentBack': WHATEVER THE INPUT: true; the input reads as it did. -/
def segmentBackSpec : ChangeSpec := { name := "segmentBack", fn := fun _ => fun
  | [d1, d2] => { results := [.lit (.bool true)], args := [d1, d2] }
  | _ => none }
def segmentBackRow : OpenClaim := { program := "ytkkmoplijicmpabdoor", sum := "e466e6c9c407edcde22f7514ccdfe37ffc6c71bff388edb19066bbf3720fda3a", func := "lantern/lanternlaw02.SegmentBack", spec := "segmentBack", named := ["lantern/segment.shapes"], apart := false, laid := [("lantern/segment.shapes", laid_lantern_segment_shapes)] }
def SegmentBackSaid : Prop := segmentBackRow.holds Tryd.pinned (OpenSpec.ofChange segmentBackSpec)

/-- ITS FALSE NEIGHBOUR: 'it returns false'. Refute it at one input. -/
def segmentBackWrong : ChangeSpec := { name := "segmentBack", fn := fun _ => fun
  | [d1, d2] => { results := [.lit (.bool false)], args := [d1, d2] }
  | _ => none }
def SegmentBackWrongFalsely : Prop := segmentBackRow.holds Tryd.pinned (OpenSpec.ofChange segmentBackWrong)

/-- 'lanternlaw02.SegmentCut': WHATEVER THE INPUT: true; the input reads as it did. -/
def segmentCutSpec : ChangeSpec := { name := "segmentCut", fn := fun _ => fun
  | [d1, d2, d3] => { results := [.lit (.bool true)], args := [d1, d2, d3] }
  | _ => none }
def segmentCutRow : OpenClaim := { program := "ytkkmoplijicmpabdoor", sum := "e466e6c9c407edcde22f7514ccdfe37ffc6c71bff388edb19066bbf3720fda3a", func := "lantern/lanternlaw02.SegmentCut", spec := "segmentCut", named := ["lantern/segment.shapes"], apart := false, laid := [("lantern/segment.shapes", laid_lantern_segment_shapes)] }
def SegmentCutSaid : Prop := segmentCutRow.holds Tryd.pinned (OpenSpec.ofChange segmentCutSpec)

/-- ITS FALSE NEIGHBOUR: 'it returns false'. Refute it at one input. -/
def segmentCutWrong : ChangeSpec := { name := "segmentCut", fn := fun _ => fun
  | [d1, d2, d3] => { results := [.lit (.bool false)], args := [d1, d2, d3] }
  | _ => none }
def SegmentCutWrongFalsely : Prop := segmentCutRow.holds Tryd.pinned (OpenSpec.ofChange segmentCutWrong)

/-- 'lanternlaw02.SegmentFirst': WHATEVER THE INPUT: true; the input reads as it did. -/
def segmentFirstSpec : ChangeSpec := { name := "segmentFirst", fn := fun _ => fun
  | [d1, d2] => { results := [.lit (.bool true)], args := [d1, d2] }
  | _ => none }
def segmentFirstRow : OpenClaim := { program := "ytkkmoplijicmpabdoor", sum := "e466e6c9c407edcde22f7514ccdfe37ffc6c71bff388edb19066bbf3720fda3a", func := "lantern/lanternlaw02.SegmentFirst", spec := "segmentFirst", named := ["lantern/segment.shapes"], apart := false, laid := [("lantern/segment.shapes", laid_lantern_segment_shapes)] }
def SegmentFirstSaid : Prop := segmentFirstRow.holds Tryd.pinned (OpenSpec.ofChange segmentFirstSpec)

/-- ITS FALSE NEIGHBOUR: 'it returns false'. Refute it at one input. -/
def segmentFirstWrong : ChangeSpec := { name := "segmentFirst", fn := fun _ => fun
  | [d1, d2] => { results := [.lit (.bool false)], args := [d1, d2] }
  | _ => none }
def SegmentFirstWrongFalsely : Prop := segmentFirstRow.holds Tryd.pinned (OpenSpec.ofChange segmentFirstWrong)

/- THE SECOND FORM. 'bulk': how many values and letters a reading holds, each counted each time it is reached (what is shared counts as often as it is met; a slice's spare places count too). A statement '..UptoSaid' is the law's where the arguments, and the package variables that the reading takes, are together of bulk at most 1048576: NARROWER than '..Said'. Prove '..Said' where nothing that the law and all that it calls make is longer than what came in: it says more and counts as full. Else prove '..UptoSaid'. A law counts once. -/
mutual
def uptoBulk {H : Type} : DataW H → Nat
  | .lit (.string bytes) => bytes.length + 1
  | .lit _ => 1
  | .nil => 1
  | .ptr d => uptoBulk d + 1
  | .slice elems spare => uptoBulkAll elems + uptoBulkAll spare + 1
  | .agg parts => uptoBulkAll parts + 1
  | .iface _ d => uptoBulk d + 1
  | .map entries => uptoBulkEntries entries + 1
  | .held _ => 1
def uptoBulkAll {H : Type} : List (DataW H) → Nat
  | [] => 0
  | d :: r => uptoBulk d + uptoBulkAll r
def uptoBulkEntries {H : Type} : List (Lit × DataW H) → Nat
  | [] => 0
  | x :: r => uptoBulkEntry x + uptoBulkEntries r
def uptoBulkEntry {H : Type} : Lit × DataW H → Nat
  | (.string bytes, d) => bytes.length + uptoBulk d + 1
  | (_, d) => uptoBulk d + 1
 end
def uptoSmall : (H : Type) → List (DataW H) → Bool := fun _ ds => decide (uptoBulkAll ds ≤ 1048576)
def OpenSpec.upto (s : _root_.Go.ChangeSpec) : _root_.Go.OpenSpec := { _root_.Go.OpenSpec.ofChange s with cond := some uptoSmall }

/-- 'lanternlaw02.SegmentPrints', WHERE WHAT IT READS IS OF BULK AT MOST 1048576: true; the input reads as it did. -/
def segmentPrintsUptoRow : OpenClaim := { program := "ytkkmoplijicmpabdoor", sum := "e466e6c9c407edcde22f7514ccdfe37ffc6c71bff388edb19066bbf3720fda3a", func := "lantern/lanternlaw02.SegmentPrints", spec := "segmentPrints", named := ["lantern/segment.shapes"], apart := false, laid := [("lantern/segment.shapes", laid_lantern_segment_shapes)], narrowed := true }
def SegmentPrintsUptoSaid : Prop := segmentPrintsUptoRow.holds Tryd.pinned (OpenSpec.upto segmentPrintsSpec)

/-- 'lanternlaw02.SegmentParses', WHERE WHAT IT READS IS OF BULK AT MOST 1048576: true; the input reads as it did. -/
def segmentParsesUptoRow : OpenClaim := { program := "ytkkmoplijicmpabdoor", sum := "e466e6c9c407edcde22f7514ccdfe37ffc6c71bff388edb19066bbf3720fda3a", func := "lantern/lanternlaw02.SegmentParses", spec := "segmentParses", named := ["lantern/segment.shapes"], apart := false, laid := [("lantern/segment.shapes", laid_lantern_segment_shapes)], narrowed := true }
def SegmentParsesUptoSaid : Prop := segmentParsesUptoRow.holds Tryd.pinned (OpenSpec.upto segmentParsesSpec)

/-- 'lanternlaw02.SegmentBack', WHERE WHAT IT READS IS OF BULK AT MOST 1048576: true; the input reads as it did. -/
def segmentBackUptoRow : OpenClaim := { program := "ytkkmoplijicmpabdoor", sum := "e466e6c9c407edcde22f7514ccdfe37ffc6c71bff388edb19066bbf3720fda3a", func := "lantern/lanternlaw02.SegmentBack", spec := "segmentBack", named := ["lantern/segment.shapes"], apart := false, laid := [("lantern/segment.shapes", laid_lantern_segment_shapes)], narrowed := true }
def SegmentBackUptoSaid : Prop := segmentBackUptoRow.holds Tryd.pinned (OpenSpec.upto segmentBackSpec)

/-- 'lanternlaw02.SegmentCut', WHERE WHAT IT READS IS OF BULK AT MOST 1048576: true; the input reads as it did. -/
def segmentCutUptoRow : OpenClaim := { program := "ytkkmoplijicmpabdoor", sum := "e466e6c9c407edcde22f7514ccdfe37ffc6c71bff388edb19066bbf3720fda3a", func := "lantern/lanternlaw02.SegmentCut", spec := "segmentCut", named := ["lantern/segment.shapes"], apart := false, laid := [("lantern/segment.shapes", laid_lantern_segment_shapes)], narrowed := true }
def SegmentCutUptoSaid : Prop := segmentCutUptoRow.holds Tryd.pinned (OpenSpec.upto segmentCutSpec)

/-- 'lanternlaw02.SegmentFirst', WHERE WHAT IT READS IS OF BULK AT MOST 1048576: true; the input reads as it did. -/
def segmentFirstUptoRow : OpenClaim := { program := "ytkkmoplijicmpabdoor", sum := "e466e6c9c407edcde22f7514ccdfe37ffc6c71bff388edb19066bbf3720fda3a", func := "lantern/lanternlaw02.SegmentFirst", spec := "segmentFirst", named := ["lantern/segment.shapes"], apart := false, laid := [("lantern/segment.shapes", laid_lantern_segment_shapes)], narrowed := true }
def SegmentFirstUptoSaid : Prop := segmentFirstUptoRow.holds Tryd.pinned (OpenSpec.upto segmentFirstSpec)

end Rows
end Go.Proofs.YtkkmoplijicmpabDoor
