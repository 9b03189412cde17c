/-
  NARROWER THAN 'FOR EVERY INPUT', by the rows' own cells (each row's printed sentence says how): LinesPlays: laid · LinesOrder: laid.
  DERIVED. THE GIVEN ROWS OF THIS SEAT. 2 by the template 'for every input the law returns true; each argument reads behind the call as it read before'; 0 by the template 'total and deterministic' (their statements: YtdfdaambfihjaaaDoorTotals.lean).
  GIVEN WITH THE SEED: the statements are not yours to turn. If you find one false, say at which input.
  Laid BY PROGRAM, IN A SANDBOX (cutbox-rows.mjs): the forced cells as the released guide's own fill.sh prints them over the translation 13b4b6a7a7fe11e8… (all of the seat's roots in one cut). By AI agents, Wed Nov 11 2026. No macro, syntax, notation, axiom, sorry.
-/
import Derived.Test.YtdfdaambfihjaaaDoorChecked
import GoSem.Claim
import GoSem.ClaimJoined
import GoSem.ClaimMapViews
import Derived.JoinedTies
import Derived.KernelRfl
namespace Go.Proofs.YtdfdaambfihjaaaDoor
/- THE CELL 'sum', in the pinned program and in every row, IS THE sha256 OF THE DUMP (.gsa) THAT YtdfdaambfihjaaaDoorProg.lean LOADS. Nothing in Lean hashes anything: it is a label: what it is worth is what the hold of that sum in a sandbox is worth. -/
noncomputable def Tryd.pinned : Pinned := { name := "ytdfdaambfihjaaadoor", sum := "13b4b6a7a7fe11e879c9a400ec9cc0d07c722f6f92db0e5dd9180b873c7ee74b", checked := Tryd.checked }
namespace Rows
def none {H : Type} : Left H := { results := [], args := [] }

/- WHAT THE LISTED PACKAGE-LEVEL VARIABLES READ AS WHEN THE CALL BEGINS. Each datum BY PROGRAM (the guide's laid-datum.mjs) off the statement by which the dump's own 'gosem.cut.vars' lays the variable. In a bare row this is a premise. The card (YtdfdaambfihjaaaDoorCards.lean) ties it to the program's text. -/
def laid_lantern_segment_shapes {H : Type} : DataW H := .agg [.lit (.int .u8 3), .lit (.int .u8 7), .lit (.int .u8 7), .lit (.int .u8 7), .lit (.int .u8 3), .lit (.int .u8 0), .lit (.int .u8 0), .lit (.int .u8 3), .lit (.int .u8 9), .lit (.int .u8 17), .lit (.int .u8 0), .lit (.int .u8 0), .lit (.int .u8 33), .lit (.int .u8 1), .lit (.int .u8 33), .lit (.int .u8 1)]

/-- 'lanternlaw11.LinesPlays': WHATEVER THE INPUT: true; the input reads as it did. -/
def linesPlaysSpec : ChangeSpec := { name := "linesPlays", fn := fun _ => fun
  | [d1, d2, d3] => { results := [.lit (.bool true)], args := [d1, d2, d3] }
  | _ => none }
def linesPlaysRow : OpenClaim := { program := "ytdfdaambfihjaaadoor", sum := "13b4b6a7a7fe11e879c9a400ec9cc0d07c722f6f92db0e5dd9180b873c7ee74b", func := "lantern/lanternlaw11.LinesPlays", spec := "linesPlays", unfollowed := true, recurses := true, named := ["lantern/segment.shapes"], apart := false, laid := [("lantern/segment.shapes", laid_lantern_segment_shapes)] }
def LinesPlaysSaid : Prop := linesPlaysRow.holds Tryd.pinned (OpenSpec.ofChange linesPlaysSpec)

/-- ITS FALSE NEIGHBOUR: 'it returns false'. Refute it at one input. -/
def linesPlaysWrong : ChangeSpec := { name := "linesPlays", fn := fun _ => fun
  | [d1, d2, d3] => { results := [.lit (.bool false)], args := [d1, d2, d3] }
  | _ => none }
def LinesPlaysWrongFalsely : Prop := linesPlaysRow.holds Tryd.pinned (OpenSpec.ofChange linesPlaysWrong)

/-- 'lanternlaw11.LinesOrder': WHATEVER THE INPUT: true; the input reads as it did. -/
def linesOrderSpec : ChangeSpec := { name := "linesOrder", fn := fun _ => fun
  | [d1, d2, d3, d4] => { results := [.lit (.bool true)], args := [d1, d2, d3, d4] }
  | _ => none }
def linesOrderRow : OpenClaim := { program := "ytdfdaambfihjaaadoor", sum := "13b4b6a7a7fe11e879c9a400ec9cc0d07c722f6f92db0e5dd9180b873c7ee74b", func := "lantern/lanternlaw11.LinesOrder", spec := "linesOrder", unfollowed := true, recurses := true, named := ["lantern/segment.shapes"], apart := false, laid := [("lantern/segment.shapes", laid_lantern_segment_shapes)] }
def LinesOrderSaid : Prop := linesOrderRow.holds Tryd.pinned (OpenSpec.ofChange linesOrderSpec)

/-- ITS FALSE NEIGHBOUR: 'it returns false'. Refute it at one input. -/
def linesOrderWrong : ChangeSpec := { name := "linesOrder", fn := fun _ => fun
  | [d1, d2, d3, d4] => { results := [.lit (.bool false)], args := [d1, d2, d3, d4] }
  | _ => none }
def LinesOrderWrongFalsely : Prop := linesOrderRow.holds Tryd.pinned (OpenSpec.ofChange linesOrderWrong)

/- THE SECOND FORM. 'bulk': how many values and letters a reading holds, each counted each time it is reached (what is shared counts as often as it is met; a slice's spare places count too). A statement '..UptoSaid' is the law's where the arguments, and the package variables that the reading takes, are together of bulk at most 1048576: NARROWER than '..Said'. Prove '..Said' where nothing that the law and all that it calls make is longer than what came in: it says more and counts as full. Else prove '..UptoSaid'. A law counts once. -/
mutual
def uptoBulk {H : Type} : DataW H → Nat
  | .lit (.string bytes) => bytes.length + 1
  | .lit _ => 1
  | .nil => 1
  | .ptr d => uptoBulk d + 1
  | .slice elems spare => uptoBulkAll elems + uptoBulkAll spare + 1
  | .agg parts => uptoBulkAll parts + 1
  | .iface _ d => uptoBulk d + 1
  | .map entries => uptoBulkEntries entries + 1
  | .held _ => 1
def uptoBulkAll {H : Type} : List (DataW H) → Nat
  | [] => 0
  | d :: r => uptoBulk d + uptoBulkAll r
def uptoBulkEntries {H : Type} : List (Lit × DataW H) → Nat
  | [] => 0
  | x :: r => uptoBulkEntry x + uptoBulkEntries r
def uptoBulkEntry {H : Type} : Lit × DataW H → Nat
  | (.string bytes, d) => bytes.length + uptoBulk d + 1
  | (_, d) => uptoBulk d + 1
 end
def uptoSmall : (H : Type) → List (DataW H) → Bool := fun _ ds => decide (uptoBulkAll ds ≤ 1048576)
def OpenSpec.upto (s : _root_.Go.ChangeSpec) : _root_.Go.OpenSpec := { _root_.Go.OpenSpec.ofChange s with cond := some uptoSmall }

/-- 'lanternlaw11.LinesPlays', WHERE WHAT IT READS IS OF BULK AT MOST 1048576: true; the input reads as it did. -/
def linesPlaysUptoRow : OpenClaim := { program := "ytdfdaambfihjaaadoor", sum := "13b4b6a7a7fe11e879c9a400ec9cc0d07c722f6f92db0e5dd9180b873c7ee74b", func := "lantern/lanternlaw11.LinesPlays", spec := "linesPlays", unfollowed := true, recurses := true, named := ["lantern/segment.shapes"], apart := false, laid := [("lantern/segment.shapes", laid_lantern_segment_shapes)], narrowed := true }
def LinesPlaysUptoSaid : Prop := linesPlaysUptoRow.holds Tryd.pinned (OpenSpec.upto linesPlaysSpec)

/-- 'lanternlaw11.LinesOrder', WHERE WHAT IT READS IS OF BULK AT MOST 1048576: true; the input reads as it did. -/
def linesOrderUptoRow : OpenClaim := { program := "ytdfdaambfihjaaadoor", sum := "13b4b6a7a7fe11e879c9a400ec9cc0d07c722f6f92db0e5dd9180b873c7ee74b", func := "lantern/lanternlaw11.LinesOrder", spec := "linesOrder", unfollowed := true, recurses := true, named := ["lantern/segment.shapes"], apart := false, laid := [("lantern/segment.shapes", laid_lantern_segment_shapes)], narrowed := true }
def LinesOrderUptoSaid : Prop := linesOrderUptoRow.holds Tryd.pinned (OpenSpec.upto linesOrderSpec)

end Rows
end Go.Proofs.YtdfdaambfihjaaaDoor
