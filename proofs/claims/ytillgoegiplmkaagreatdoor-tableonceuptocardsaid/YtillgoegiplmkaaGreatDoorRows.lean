/-
  NARROWER THAN 'FOR EVERY INPUT', by the rows' own cells (each row's printed sentence says how): TablePlays: laid · TableLoads: laid · TableEnough: laid · TableShort: laid · TableOnce: laid.
  DERIVED. THE GIVEN ROWS OF THIS SEAT. 5 by the template 'for every input the law returns true; each argument reads behind the call as it read before'; 0 by the template 'total and deterministic' (their statements: YtillgoegiplmkaaGreatDoorTotals.lean).
  GIVEN WITH THE SEED: the statements are not yours to turn. If you find one false, say at which input.
  Laid BY PROGRAM, IN A SANDBOX (cutbox-rows.mjs): the forced cells as the released guide's own fill.sh prints them over the translation ea5e4bb773e383a2… (all of the seat's roots in one cut). By AI agents, Wed Nov 11 2026. No macro, syntax, notation, axiom, sorry.
-/
import Derived.Test.YtillgoegiplmkaaGreatDoorChecked
import GoSem.Claim
import GoSem.ClaimJoined
import GoSem.ClaimMapViews
import Derived.JoinedTies
import Derived.KernelRfl
namespace Go.Proofs.YtillgoegiplmkaaGreatDoor
/- THE CELL 'sum', in the pinned program and in every row, IS THE sha256 OF THE DUMP (.gsa) THAT YtillgoegiplmkaaGreatDoorProg.lean LOADS. Nothing in Lean hashes anything: it is a label: what it is worth is what the hold of that sum in a sandbox is worth. -/
noncomputable def Tryz.pinned : Pinned := { name := "ytillgoegiplmkaagreatdoor", sum := "ea5e4bb773e383a26de900daf5ad73998ceff9c8046fa677905e0cade0425311", checked := Tryz.checked }
namespace Rows
def none {H : Type} : Left H := { results := [], args := [] }

/- WHAT THE LISTED PACKAGE-LEVEL VARIABLES READ AS WHEN THE CALL BEGINS. Each datum BY PROGRAM (the guide's laid-datum.mjs) off the statement by which the dump's own 'gosem.cut.vars' lays the variable. In a bare row this is a premise. The card (YtillgoegiplmkaaGreatDoorCards.lean) ties it to the program's text. -/
def laid_lantern_record_kinds {H : Type} : DataW H := .agg [.lit (.int .u16 0), .lit (.int .u16 65), .lit (.int .u16 64), .lit (.int .u16 623), .lit (.int .u16 131), .lit (.int .u16 3), .lit (.int .u16 635), .lit (.int .u16 3), .lit (.int .u16 131), .lit (.int .u16 3), .lit (.int .u16 3), .lit (.int .u16 320), .lit (.int .u16 107)]

/-- 'lanternlaw08.TablePlays': WHATEVER THE INPUT: true; the input reads as it did. -/
def tablePlaysSpec : ChangeSpec := { name := "tablePlays", fn := fun _ => fun
  | [d] => { results := [.lit (.bool true)], args := [d] }
  | _ => none }
def tablePlaysRow : OpenClaim := { program := "ytillgoegiplmkaagreatdoor", sum := "ea5e4bb773e383a26de900daf5ad73998ceff9c8046fa677905e0cade0425311", func := "lantern/lanternlaw08.TablePlays", spec := "tablePlays", unfollowed := true, recurses := true, named := ["lantern/record.kinds"], plainKeys := false, apart := false, laid := [("lantern/record.kinds", laid_lantern_record_kinds)] }
def TablePlaysSaid : Prop := tablePlaysRow.holds Tryz.pinned (OpenSpec.ofChange tablePlaysSpec)

/-- ITS FALSE NEIGHBOUR: 'it returns false'. Refute it at one input. -/
def tablePlaysWrong : ChangeSpec := { name := "tablePlays", fn := fun _ => fun
  | [d] => { results := [.lit (.bool false)], args := [d] }
  | _ => none }
def TablePlaysWrongFalsely : Prop := tablePlaysRow.holds Tryz.pinned (OpenSpec.ofChange tablePlaysWrong)

/-- 'lanternlaw08.TableLoads': WHATEVER THE INPUT: true; the input reads as it did. -/
def tableLoadsSpec : ChangeSpec := { name := "tableLoads", fn := fun _ => fun
  | [d1, d2, d3] => { results := [.lit (.bool true)], args := [d1, d2, d3] }
  | _ => none }
def tableLoadsRow : OpenClaim := { program := "ytillgoegiplmkaagreatdoor", sum := "ea5e4bb773e383a26de900daf5ad73998ceff9c8046fa677905e0cade0425311", func := "lantern/lanternlaw08.TableLoads", spec := "tableLoads", unfollowed := true, recurses := true, named := ["lantern/record.kinds"], plainKeys := false, apart := false, laid := [("lantern/record.kinds", laid_lantern_record_kinds)] }
def TableLoadsSaid : Prop := tableLoadsRow.holds Tryz.pinned (OpenSpec.ofChange tableLoadsSpec)

/-- ITS FALSE NEIGHBOUR: 'it returns false'. Refute it at one input. -/
def tableLoadsWrong : ChangeSpec := { name := "tableLoads", fn := fun _ => fun
  | [d1, d2, d3] => { results := [.lit (.bool false)], args := [d1, d2, d3] }
  | _ => none }
def TableLoadsWrongFalsely : Prop := tableLoadsRow.holds Tryz.pinned (OpenSpec.ofChange tableLoadsWrong)

/-- 'lanternlaw08.TableEnough': WHATEVER THE INPUT: true; the input reads as it did. -/
def tableEnoughSpec : ChangeSpec := { name := "tableEnough", fn := fun _ => fun
  | [d] => { results := [.lit (.bool true)], args := [d] }
  | _ => none }
def tableEnoughRow : OpenClaim := { program := "ytillgoegiplmkaagreatdoor", sum := "ea5e4bb773e383a26de900daf5ad73998ceff9c8046fa677905e0cade0425311", func := "lantern/lanternlaw08.TableEnough", spec := "tableEnough", unfollowed := true, recurses := true, named := ["lantern/record.kinds"], plainKeys := false, apart := false, laid := [("lantern/record.kinds", laid_lantern_record_kinds)] }
def TableEnoughSaid : Prop := tableEnoughRow.holds Tryz.pinned (OpenSpec.ofChange tableEnoughSpec)

/-- ITS FALSE NEIGHBOUR: 'it returns false'. Refute it at one input. -/
def tableEnoughWrong : ChangeSpec := { name := "tableEnough", fn := fun _ => fun
  | [d] => { results := [.lit (.bool false)], args := [d] }
  | _ => none }
def TableEnoughWrongFalsely : Prop := tableEnoughRow.holds Tryz.pinned (OpenSpec.ofChange tableEnoughWrong)

/-- 'lanternlaw08.TableShort': WHATEVER THE INPUT: true; the input reads as it did. -/
def tableShortSpec : ChangeSpec := { name := "tableShort", fn := fun _ => fun
  | [d1, d2] => { results := [.lit (.bool true)], args := [d1, d2] }
  | _ => none }
def tableShortRow : OpenClaim := { program := "ytillgoegiplmkaagreatdoor", sum := "ea5e4bb773e383a26de900daf5ad73998ceff9c8046fa677905e0cade0425311", func := "lantern/lanternlaw08.TableShort", spec := "tableShort", unfollowed := true, recurses := true, named := ["lantern/record.kinds"], plainKeys := false, apart := false, laid := [("lantern/record.kinds", laid_lantern_record_kinds)] }
def TableShortSaid : Prop := tableShortRow.holds Tryz.pinned (OpenSpec.ofChange tableShortSpec)

/-- ITS FALSE NEIGHBOUR: 'it returns false'. Refute it at one input. -/
def tableShortWrong : ChangeSpec := { name := "tableShort", fn := fun _ => fun
  | [d1, d2] => { results := [.lit (.bool false)], args := [d1, d2] }
  | _ => none }
def TableShortWrongFalsely : Prop := tableShortRow.holds Tryz.pinned (OpenSpec.ofChange tableShortWrong)

/-- 'lanternlaw08.TableOnce': WHATEVER THE INPUT: true; the input reads as it did. -/
def tableOnceSpec : ChangeSpec := { name := "tableOnce", fn := fun _ => fun
  | [d] => { results := [.lit (.bool true)], args := [d] }
  | _ => none }
def tableOnceRow : OpenClaim := { program := "ytillgoegiplmkaagreatdoor", sum := "ea5e4bb773e383a26de900daf5ad73998ceff9c8046fa677905e0cade0425311", func := "lantern/lanternlaw08.TableOnce", spec := "tableOnce", unfollowed := true, recurses := true, named := ["lantern/record.kinds"], plainKeys := false, apart := false, laid := [("lantern/record.kinds", laid_lantern_record_kinds)] }
def TableOnceSaid : Prop := tableOnceRow.holds Tryz.pinned (OpenSpec.ofChange tableOnceSpec)

/-- ITS FALSE NEIGHBOUR: 'it returns false'. Refute it at one input. -/
def tableOnceWrong : ChangeSpec := { name := "tableOnce", fn := fun _ => fun
  | [d] => { results := [.lit (.bool false)], args := [d] }
  | _ => none }
def TableOnceWrongFalsely : Prop := tableOnceRow.holds Tryz.pinned (OpenSpec.ofChange tableOnceWrong)

/- THE SECOND FORM. 'bulk': how many values and letters a reading holds, each counted each time it is reached (what is shared counts as often as it is met; a slice's spare places count too). A statement '..UptoSaid' is the law's where the arguments, and the package variables that the reading takes, are together of bulk at most 1048576: NARROWER than '..Said'. Prove '..Said' where nothing that the law and all that it calls make is longer than what came in: it says more and counts as full. Else prove '..UptoSaid'. A law counts once. -/
mutual
def uptoBulk {H : Type} : DataW H → Nat
  | .lit (.string bytes) => bytes.length + 1
  | .lit _ => 1
  | .nil => 1
  | .ptr d => uptoBulk d + 1
  | .slice elems spare => uptoBulkAll elems + uptoBulkAll spare + 1
  | .agg parts => uptoBulkAll parts + 1
  | .iface _ d => uptoBulk d + 1
  | .map entries => uptoBulkEntries entries + 1
  | .held _ => 1
def uptoBulkAll {H : Type} : List (DataW H) → Nat
  | [] => 0
  | d :: r => uptoBulk d + uptoBulkAll r
def uptoBulkEntries {H : Type} : List (Lit × DataW H) → Nat
  | [] => 0
  | x :: r => uptoBulkEntry x + uptoBulkEntries r
def uptoBulkEntry {H : Type} : Lit × DataW H → Nat
  | (.string bytes, d) => bytes.length + uptoBulk d + 1
  | (_, d) => uptoBulk d + 1
 end
def uptoSmall : (H : Type) → List (DataW H) → Bool := fun _ ds => decide (uptoBulkAll ds ≤ 1048576)
def OpenSpec.upto (s : _root_.Go.ChangeSpec) : _root_.Go.OpenSpec := { _root_.Go.OpenSpec.ofChange s with cond := some uptoSmall }

/-- 'lanternlaw08.TablePlays', WHERE WHAT IT READS IS OF BULK AT MOST 1048576: true; the input reads as it did. -/
def tablePlaysUptoRow : OpenClaim := { program := "ytillgoegiplmkaagreatdoor", sum := "ea5e4bb773e383a26de900daf5ad73998ceff9c8046fa677905e0cade0425311", func := "lantern/lanternlaw08.TablePlays", spec := "tablePlays", unfollowed := true, recurses := true, named := ["lantern/record.kinds"], plainKeys := false, apart := false, laid := [("lantern/record.kinds", laid_lantern_record_kinds)], narrowed := true }
def TablePlaysUptoSaid : Prop := tablePlaysUptoRow.holds Tryz.pinned (OpenSpec.upto tablePlaysSpec)

/-- 'lanternlaw08.TableLoads', WHERE WHAT IT READS IS OF BULK AT MOST 1048576: true; the input reads as it did. -/
def tableLoadsUptoRow : OpenClaim := { program := "ytillgoegiplmkaagreatdoor", sum := "ea5e4bb773e383a26de900daf5ad73998ceff9c8046fa677905e0cade0425311", func := "lantern/lanternlaw08.TableLoads", spec := "tableLoads", unfollowed := true, recurses := true, named := ["lantern/record.kinds"], plainKeys := false, apart := false, laid := [("lantern/record.kinds", laid_lantern_record_kinds)], narrowed := true }
def TableLoadsUptoSaid : Prop := tableLoadsUptoRow.holds Tryz.pinned (OpenSpec.upto tableLoadsSpec)

/-- 'lanternlaw08.TableEnough', WHERE WHAT IT READS IS OF BULK AT MOST 1048576: true; the input reads as it did. -/
def tableEnoughUptoRow : OpenClaim := { program := "ytillgoegiplmkaagreatdoor", sum := "ea5e4bb773e383a26de900daf5ad73998ceff9c8046fa677905e0cade0425311", func := "lantern/lanternlaw08.TableEnough", spec := "tableEnough", unfollowed := true, recurses := true, named := ["lantern/record.kinds"], plainKeys := false, apart := false, laid := [("lantern/record.kinds", laid_lantern_record_kinds)], narrowed := true }
def TableEnoughUptoSaid : Prop := tableEnoughUptoRow.holds Tryz.pinned (OpenSpec.upto tableEnoughSpec)

/-- 'lanternlaw08.TableShort', WHERE WHAT IT READS IS OF BULK AT MOST 1048576: true; the input reads as it did. -/
def tableShortUptoRow : OpenClaim := { program := "ytillgoegiplmkaagreatdoor", sum := "ea5e4bb773e383a26de900daf5ad73998ceff9c8046fa677905e0cade0425311", func := "lantern/lanternlaw08.TableShort", spec := "tableShort", unfollowed := true, recurses := true, named := ["lantern/record.kinds"], plainKeys := false, apart := false, laid := [("lantern/record.kinds", laid_lantern_record_kinds)], narrowed := true }
def TableShortUptoSaid : Prop := tableShortUptoRow.holds Tryz.pinned (OpenSpec.upto tableShortSpec)

/-- 'lanternlaw08.TableOnce', WHERE WHAT IT READS IS OF BULK AT MOST 1048576: true; the input reads as it did. -/
def tableOnceUptoRow : OpenClaim := { program := "ytillgoegiplmkaagreatdoor", sum := "ea5e4bb773e383a26de900daf5ad73998ceff9c8046fa677905e0cade0425311", func := "lantern/lanternlaw08.TableOnce", spec := "tableOnce", unfollowed := true, recurses := true, named := ["lantern/record.kinds"], plainKeys := false, apart := false, laid := [("lantern/record.kinds", laid_lantern_record_kinds)], narrowed := true }
def TableOnceUptoSaid : Prop := tableOnceUptoRow.holds Tryz.pinned (OpenSpec.upto tableOnceSpec)

end Rows
end Go.Proofs.YtillgoegiplmkaaGreatDoor
