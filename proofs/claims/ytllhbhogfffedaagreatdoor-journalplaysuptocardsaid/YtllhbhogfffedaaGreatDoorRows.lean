/-
  NARROWER THAN 'FOR EVERY INPUT', by the rows' own cells (each row's printed sentence says how): JournalPlays: laid · JournalSafe: laid · JournalOnce: laid.
  DERIVED. THE GIVEN ROWS OF THIS SEAT. 3 by the template 'for every input the law returns true; each argument reads behind the call as it read before'; 0 by the template 'total and deterministic' (their statements: YtllhbhogfffedaaGreatDoorTotals.lean).
  GIVEN WITH THE SEED: the statements are not yours to turn. If you find one false, say at which input.
  Laid BY PROGRAM, IN A SANDBOX (cutbox-rows.mjs): the forced cells as the released guide's own fill.sh prints them over the translation a61cb01b5999f824… (all of the seat's roots in one cut). By AI agents, Wed Nov 11 2026. No macro, syntax, notation, axiom, sorry.
-/
import Derived.Test.YtllhbhogfffedaaGreatDoorChecked
import GoSem.Claim
import GoSem.ClaimJoined
import GoSem.ClaimMapViews
import Derived.JoinedTies
import Derived.KernelRfl
namespace Go.Proofs.YtllhbhogfffedaaGreatDoor
/- THE CELL 'sum', in the pinned program and in every row, IS THE sha256 OF THE DUMP (.gsa) THAT YtllhbhogfffedaaGreatDoorProg.lean LOADS. Nothing in Lean hashes anything: it is a label: what it is worth is what the hold of that sum in a sandbox is worth. -/
noncomputable def Tryz.pinned : Pinned := { name := "ytllhbhogfffedaagreatdoor", sum := "a61cb01b5999f824fd1773c5fed20e42db64f94df1fcee12e868b97280b12dc0", checked := Tryz.checked }
namespace Rows
def none {H : Type} : Left H := { results := [], args := [] }

/- WHAT THE LISTED PACKAGE-LEVEL VARIABLES READ AS WHEN THE CALL BEGINS. Each datum BY PROGRAM (the guide's laid-datum.mjs) off the statement by which the dump's own 'gosem.cut.vars' lays the variable. In a bare row this is a premise. The card (YtllhbhogfffedaaGreatDoorCards.lean) ties it to the program's text. -/
def laid_errors_errorType {H : Type} : DataW H := .iface "internal/reflectlite.rtype" (.agg [.ptr (.lit (.string [101, 114, 114, 111, 114]))])
def laid_lantern_disk_ErrFull {H : Type} : DataW H := .iface "*errors.errorString" (.ptr (.agg [.lit (.string [116, 104, 101, 32, 100, 105, 115, 107, 32, 104, 97, 115, 32, 110, 111, 32, 114, 111, 111, 109])]))
def laid_lantern_disk_ErrDown {H : Type} : DataW H := .iface "*errors.errorString" (.ptr (.agg [.lit (.string [116, 104, 101, 32, 100, 105, 115, 107, 32, 105, 115, 32, 100, 111, 119, 110])]))
def laid_lantern_disk_ErrNone {H : Type} : DataW H := .iface "*errors.errorString" (.ptr (.agg [.lit (.string [110, 111, 32, 115, 117, 99, 104, 32, 102, 105, 108, 101])]))
def laid_lantern_record_kinds {H : Type} : DataW H := .agg [.lit (.int .u16 0), .lit (.int .u16 65), .lit (.int .u16 64), .lit (.int .u16 623), .lit (.int .u16 131), .lit (.int .u16 3), .lit (.int .u16 635), .lit (.int .u16 3), .lit (.int .u16 131), .lit (.int .u16 3), .lit (.int .u16 3), .lit (.int .u16 320), .lit (.int .u16 107)]

/-- 'lanternlaw07.JournalPlays': WHATEVER THE INPUT: true; the input reads as it did. -/
def journalPlaysSpec : ChangeSpec := { name := "journalPlays", fn := fun _ => fun
  | [d] => { results := [.lit (.bool true)], args := [d] }
  | _ => none }
def journalPlaysRow : OpenClaim := { program := "ytllhbhogfffedaagreatdoor", sum := "a61cb01b5999f824fd1773c5fed20e42db64f94df1fcee12e868b97280b12dc0", func := "lantern/lanternlaw07.JournalPlays", spec := "journalPlays", inPlace := ["internal/reflectlite.TypeOf", "internal/reflectlite.ValueOf", "(internal/reflectlite.Value).Type", "(internal/reflectlite.Value).IsNil", "(internal/reflectlite.Value).Elem", "(internal/reflectlite.Value).Set"], unfollowed := true, recurses := true, named := ["lantern/disk.ErrNone", "lantern/disk.ErrDown", "lantern/record.kinds", "lantern/disk.ErrFull", "errors.errorType"], apart := false, laid := [("errors.errorType", laid_errors_errorType), ("lantern/disk.ErrFull", laid_lantern_disk_ErrFull), ("lantern/disk.ErrDown", laid_lantern_disk_ErrDown), ("lantern/disk.ErrNone", laid_lantern_disk_ErrNone), ("lantern/record.kinds", laid_lantern_record_kinds)] }
def JournalPlaysSaid : Prop := journalPlaysRow.holds Tryz.pinned (OpenSpec.ofChange journalPlaysSpec)

/-- ITS FALSE NEIGHBOUR: 'it returns false'. Refute it at one input. -/
def journalPlaysWrong : ChangeSpec := { name := "journalPlays", fn := fun _ => fun
  | [d] => { results := [.lit (.bool false)], args := [d] }
  | _ => none }
def JournalPlaysWrongFalsely : Prop := journalPlaysRow.holds Tryz.pinned (OpenSpec.ofChange journalPlaysWrong)

/-- 'lanternlaw07.JournalSafe': WHATEVER THE INPUT: true; the input reads as it did. -/
def journalSafeSpec : ChangeSpec := { name := "journalSafe", fn := fun _ => fun
  | [d1, d2, d3] => { results := [.lit (.bool true)], args := [d1, d2, d3] }
  | _ => none }
def journalSafeRow : OpenClaim := { program := "ytllhbhogfffedaagreatdoor", sum := "a61cb01b5999f824fd1773c5fed20e42db64f94df1fcee12e868b97280b12dc0", func := "lantern/lanternlaw07.JournalSafe", spec := "journalSafe", inPlace := ["internal/reflectlite.TypeOf", "internal/reflectlite.ValueOf", "(internal/reflectlite.Value).Type", "(internal/reflectlite.Value).IsNil", "(internal/reflectlite.Value).Elem", "(internal/reflectlite.Value).Set"], unfollowed := true, recurses := true, named := ["lantern/disk.ErrNone", "lantern/disk.ErrDown", "lantern/record.kinds", "lantern/disk.ErrFull", "errors.errorType"], apart := false, laid := [("errors.errorType", laid_errors_errorType), ("lantern/disk.ErrFull", laid_lantern_disk_ErrFull), ("lantern/disk.ErrDown", laid_lantern_disk_ErrDown), ("lantern/disk.ErrNone", laid_lantern_disk_ErrNone), ("lantern/record.kinds", laid_lantern_record_kinds)] }
def JournalSafeSaid : Prop := journalSafeRow.holds Tryz.pinned (OpenSpec.ofChange journalSafeSpec)

/-- ITS FALSE NEIGHBOUR: 'it returns false'. Refute it at one input. -/
def journalSafeWrong : ChangeSpec := { name := "journalSafe", fn := fun _ => fun
  | [d1, d2, d3] => { results := [.lit (.bool false)], args := [d1, d2, d3] }
  | _ => none }
def JournalSafeWrongFalsely : Prop := journalSafeRow.holds Tryz.pinned (OpenSpec.ofChange journalSafeWrong)

/-- 'lanternlaw07.JournalOnce': WHATEVER THE INPUT: true; the input reads as it did. -/
def journalOnceSpec : ChangeSpec := { name := "journalOnce", fn := fun _ => fun
  | [d] => { results := [.lit (.bool true)], args := [d] }
  | _ => none }
def journalOnceRow : OpenClaim := { program := "ytllhbhogfffedaagreatdoor", sum := "a61cb01b5999f824fd1773c5fed20e42db64f94df1fcee12e868b97280b12dc0", func := "lantern/lanternlaw07.JournalOnce", spec := "journalOnce", inPlace := ["internal/reflectlite.TypeOf", "internal/reflectlite.ValueOf", "(internal/reflectlite.Value).Type", "(internal/reflectlite.Value).IsNil", "(internal/reflectlite.Value).Elem", "(internal/reflectlite.Value).Set"], unfollowed := true, recurses := true, named := ["lantern/disk.ErrNone", "lantern/disk.ErrDown", "lantern/record.kinds", "lantern/disk.ErrFull", "errors.errorType"], apart := false, laid := [("errors.errorType", laid_errors_errorType), ("lantern/disk.ErrFull", laid_lantern_disk_ErrFull), ("lantern/disk.ErrDown", laid_lantern_disk_ErrDown), ("lantern/disk.ErrNone", laid_lantern_disk_ErrNone), ("lantern/record.kinds", laid_lantern_record_kinds)] }
def JournalOnceSaid : Prop := journalOnceRow.holds Tryz.pinned (OpenSpec.ofChange journalOnceSpec)

/-- ITS FALSE NEIGHBOUR: 'it returns false'. Refute it at one input. -/
def journalOnceWrong : ChangeSpec := { name := "journalOnce", fn := fun _ => fun
  | [d] => { results := [.lit (.bool false)], args := [d] }
  | _ => none }
def JournalOnceWrongFalsely : Prop := journalOnceRow.holds Tryz.pinned (OpenSpec.ofChange journalOnceWrong)

/- THE SECOND FORM. 'bulk': how many values and letters a reading holds, each counted each time it is reached (what is shared counts as often as it is met; a slice's spare places count too). A statement '..UptoSaid' is the law's where the arguments, and the package variables that the reading takes, are together of bulk at most 1048576: NARROWER than '..Said'. Prove '..Said' where nothing that the law and all that it calls make is longer than what came in: it says more and counts as full. Else prove '..UptoSaid'. A law counts once. -/
mutual
def uptoBulk {H : Type} : DataW H → Nat
  | .lit (.string bytes) => bytes.length + 1
  | .lit _ => 1
  | .nil => 1
  | .ptr d => uptoBulk d + 1
  | .slice elems spare => uptoBulkAll elems + uptoBulkAll spare + 1
  | .agg parts => uptoBulkAll parts + 1
  | .iface _ d => uptoBulk d + 1
  | .map entries => uptoBulkEntries entries + 1
  | .held _ => 1
def uptoBulkAll {H : Type} : List (DataW H) → Nat
  | [] => 0
  | d :: r => uptoBulk d + uptoBulkAll r
def uptoBulkEntries {H : Type} : List (Lit × DataW H) → Nat
  | [] => 0
  | x :: r => uptoBulkEntry x + uptoBulkEntries r
def uptoBulkEntry {H : Type} : Lit × DataW H → Nat
  | (.string bytes, d) => bytes.length + uptoBulk d + 1
  | (_, d) => uptoBulk d + 1
 end
def uptoSmall : (H : Type) → List (DataW H) → Bool := fun _ ds => decide (uptoBulkAll ds ≤ 1048576)
def OpenSpec.upto (s : _root_.Go.ChangeSpec) : _root_.Go.OpenSpec := { _root_.Go.OpenSpec.ofChange s with cond := some uptoSmall }

/-- 'lanternlaw07.JournalPlays', WHERE WHAT IT READS IS OF BULK AT MOST 1048576: true; the input reads as it did. -/
def journalPlaysUptoRow : OpenClaim := { program := "ytllhbhogfffedaagreatdoor", sum := "a61cb01b5999f824fd1773c5fed20e42db64f94df1fcee12e868b97280b12dc0", func := "lantern/lanternlaw07.JournalPlays", spec := "journalPlays", inPlace := ["internal/reflectlite.TypeOf", "internal/reflectlite.ValueOf", "(internal/reflectlite.Value).Type", "(internal/reflectlite.Value).IsNil", "(internal/reflectlite.Value).Elem", "(internal/reflectlite.Value).Set"], unfollowed := true, recurses := true, named := ["lantern/disk.ErrNone", "lantern/disk.ErrDown", "lantern/record.kinds", "lantern/disk.ErrFull", "errors.errorType"], apart := false, laid := [("errors.errorType", laid_errors_errorType), ("lantern/disk.ErrFull", laid_lantern_disk_ErrFull), ("lantern/disk.ErrDown", laid_lantern_disk_ErrDown), ("lantern/disk.ErrNone", laid_lantern_disk_ErrNone), ("lantern/record.kinds", laid_lantern_record_kinds)], narrowed := true }
def JournalPlaysUptoSaid : Prop := journalPlaysUptoRow.holds Tryz.pinned (OpenSpec.upto journalPlaysSpec)

/-- 'lanternlaw07.JournalSafe', WHERE WHAT IT READS IS OF BULK AT MOST 1048576: true; the input reads as it did. -/
def journalSafeUptoRow : OpenClaim := { program := "ytllhbhogfffedaagreatdoor", sum := "a61cb01b5999f824fd1773c5fed20e42db64f94df1fcee12e868b97280b12dc0", func := "lantern/lanternlaw07.JournalSafe", spec := "journalSafe", inPlace := ["internal/reflectlite.TypeOf", "internal/reflectlite.ValueOf", "(internal/reflectlite.Value).Type", "(internal/reflectlite.Value).IsNil", "(internal/reflectlite.Value).Elem", "(internal/reflectlite.Value).Set"], unfollowed := true, recurses := true, named := ["lantern/disk.ErrNone", "lantern/disk.ErrDown", "lantern/record.kinds", "lantern/disk.ErrFull", "errors.errorType"], apart := false, laid := [("errors.errorType", laid_errors_errorType), ("lantern/disk.ErrFull", laid_lantern_disk_ErrFull), ("lantern/disk.ErrDown", laid_lantern_disk_ErrDown), ("lantern/disk.ErrNone", laid_lantern_disk_ErrNone), ("lantern/record.kinds", laid_lantern_record_kinds)], narrowed := true }
def JournalSafeUptoSaid : Prop := journalSafeUptoRow.holds Tryz.pinned (OpenSpec.upto journalSafeSpec)

/-- 'lanternlaw07.JournalOnce', WHERE WHAT IT READS IS OF BULK AT MOST 1048576: true; the input reads as it did. -/
def journalOnceUptoRow : OpenClaim := { program := "ytllhbhogfffedaagreatdoor", sum := "a61cb01b5999f824fd1773c5fed20e42db64f94df1fcee12e868b97280b12dc0", func := "lantern/lanternlaw07.JournalOnce", spec := "journalOnce", inPlace := ["internal/reflectlite.TypeOf", "internal/reflectlite.ValueOf", "(internal/reflectlite.Value).Type", "(internal/reflectlite.Value).IsNil", "(internal/reflectlite.Value).Elem", "(internal/reflectlite.Value).Set"], unfollowed := true, recurses := true, named := ["lantern/disk.ErrNone", "lantern/disk.ErrDown", "lantern/record.kinds", "lantern/disk.ErrFull", "errors.errorType"], apart := false, laid := [("errors.errorType", laid_errors_errorType), ("lantern/disk.ErrFull", laid_lantern_disk_ErrFull), ("lantern/disk.ErrDown", laid_lantern_disk_ErrDown), ("lantern/disk.ErrNone", laid_lantern_disk_ErrNone), ("lantern/record.kinds", laid_lantern_record_kinds)], narrowed := true }
def JournalOnceUptoSaid : Prop := journalOnceUptoRow.holds Tryz.pinned (OpenSpec.upto journalOnceSpec)

end Rows
end Go.Proofs.YtllhbhogfffedaaGreatDoor
