/-
  NARROWER THAN 'FOR EVERY INPUT', by the rows' own cells (each row's printed sentence says how): RecordBack: laid · RecordTorn: laid · JournalNames: laid.
  DERIVED. THE GIVEN ROWS OF THIS SEAT. 3 by the template 'for every input the law returns true; each argument reads behind the call as it read before'; 0 by the template 'total and deterministic' (their statements: YtjolflpmeodnaagDoorTotals.lean).
  GIVEN WITH THE SEED: the statements are not yours to turn. If you find one false, say at which input.
  Laid BY PROGRAM, IN A SANDBOX (cutbox-rows.mjs): the forced cells as the released guide's own fill.sh prints them over the translation 32700a96e8b2298b… (all of the seat's roots in one cut). By AI agents, Wed Nov 11 2026. No macro, syntax, notation, axiom, sorry.
-/
import Derived.Test.YtjolflpmeodnaagDoorChecked
import GoSem.Claim
import GoSem.ClaimJoined
import GoSem.ClaimMapViews
import Derived.JoinedTies
import Derived.KernelRfl
namespace Go.Proofs.YtjolflpmeodnaagDoor
/- THE CELL 'sum', in the pinned program and in every row, IS THE sha256 OF THE DUMP (.gsa) THAT YtjolflpmeodnaagDoorProg.lean LOADS. Nothing in Lean hashes anything: it is a label: what it is worth is what the hold of that sum in a sandbox is worth. -/
noncomputable def Tryd.pinned : Pinned := { name := "ytjolflpmeodnaagdoor", sum := "32700a96e8b2298b4bf8255aa542c38d6e60943c437bf73b5ebf106c9ba72b48", checked := Tryd.checked }
namespace Rows
def none {H : Type} : Left H := { results := [], args := [] }

/- WHAT THE LISTED PACKAGE-LEVEL VARIABLES READ AS WHEN THE CALL BEGINS. Each datum BY PROGRAM (the guide's laid-datum.mjs) off the statement by which the dump's own 'gosem.cut.vars' lays the variable. In a bare row this is a premise. The card (YtjolflpmeodnaagDoorCards.lean) ties it to the program's text. -/
def laid_lantern_record_kinds {H : Type} : DataW H := .agg [.lit (.int .u16 0), .lit (.int .u16 65), .lit (.int .u16 64), .lit (.int .u16 623), .lit (.int .u16 131), .lit (.int .u16 3), .lit (.int .u16 635), .lit (.int .u16 3), .lit (.int .u16 131), .lit (.int .u16 3), .lit (.int .u16 3), .lit (.int .u16 320), .lit (.int .u16 107)]
def laid_lantern_disk_ErrFull {H : Type} : DataW H := .iface "*errors.errorString" (.ptr (.agg [.lit (.string [116, 104, 101, 32, 100, 105, 115, 107, 32, 104, 97, 115, 32, 110, 111, 32, 114, 111, 111, 109])]))
def laid_lantern_disk_ErrDown {H : Type} : DataW H := .iface "*errors.errorString" (.ptr (.agg [.lit (.string [116, 104, 101, 32, 100, 105, 115, 107, 32, 105, 115, 32, 100, 111, 119, 110])]))
def laid_lantern_disk_ErrNone {H : Type} : DataW H := .iface "*errors.errorString" (.ptr (.agg [.lit (.string [110, 111, 32, 115, 117, 99, 104, 32, 102, 105, 108, 101])]))

/-- 'lanternlaw06.RecordBack': WHATEVER THE INPUT: true; the input reads as it did. -/
def recordBackSpec : ChangeSpec := { name := "recordBack", fn := fun _ => fun
  | [d1, d2] => { results := [.lit (.bool true)], args := [d1, d2] }
  | _ => none }
def recordBackRow : OpenClaim := { program := "ytjolflpmeodnaagdoor", sum := "32700a96e8b2298b4bf8255aa542c38d6e60943c437bf73b5ebf106c9ba72b48", func := "lantern/lanternlaw06.RecordBack", spec := "recordBack", unfollowed := true, recurses := true, named := ["lantern/record.kinds"], apart := false, laid := [("lantern/record.kinds", laid_lantern_record_kinds)] }
def RecordBackSaid : Prop := recordBackRow.holds Tryd.pinned (OpenSpec.ofChange recordBackSpec)

/-- ITS FALSE NEIGHBOUR: 'it returns false'. Refute it at one input. -/
def recordBackWrong : ChangeSpec := { name := "recordBack", fn := fun _ => fun
  | [d1, d2] => { results := [.lit (.bool false)], args := [d1, d2] }
  | _ => none }
def RecordBackWrongFalsely : Prop := recordBackRow.holds Tryd.pinned (OpenSpec.ofChange recordBackWrong)

/-- 'lanternlaw06.RecordTorn': WHATEVER THE INPUT: true; the input reads as it did. -/
def recordTornSpec : ChangeSpec := { name := "recordTorn", fn := fun _ => fun
  | [d1, d2, d3, d4, d5] => { results := [.lit (.bool true)], args := [d1, d2, d3, d4, d5] }
  | _ => none }
def recordTornRow : OpenClaim := { program := "ytjolflpmeodnaagdoor", sum := "32700a96e8b2298b4bf8255aa542c38d6e60943c437bf73b5ebf106c9ba72b48", func := "lantern/lanternlaw06.RecordTorn", spec := "recordTorn", unfollowed := true, recurses := true, named := ["lantern/record.kinds"], apart := false, laid := [("lantern/record.kinds", laid_lantern_record_kinds)] }
def RecordTornSaid : Prop := recordTornRow.holds Tryd.pinned (OpenSpec.ofChange recordTornSpec)

/-- ITS FALSE NEIGHBOUR: 'it returns false'. Refute it at one input. -/
def recordTornWrong : ChangeSpec := { name := "recordTorn", fn := fun _ => fun
  | [d1, d2, d3, d4, d5] => { results := [.lit (.bool false)], args := [d1, d2, d3, d4, d5] }
  | _ => none }
def RecordTornWrongFalsely : Prop := recordTornRow.holds Tryd.pinned (OpenSpec.ofChange recordTornWrong)

/-- 'lanternlaw07.JournalNames': WHATEVER THE INPUT: true; the input reads as it did. -/
def journalNamesSpec : ChangeSpec := { name := "journalNames", fn := fun _ => fun
  | [] => { results := [.lit (.bool true)], args := [] }
  | _ => none }
def journalNamesRow : OpenClaim := { program := "ytjolflpmeodnaagdoor", sum := "32700a96e8b2298b4bf8255aa542c38d6e60943c437bf73b5ebf106c9ba72b48", func := "lantern/lanternlaw07.JournalNames", spec := "journalNames", inPlace := ["internal/reflectlite.TypeOf"], unfollowed := true, recurses := true, named := ["lantern/disk.ErrNone", "lantern/disk.ErrDown", "lantern/record.kinds", "lantern/disk.ErrFull"], apart := false, laid := [("lantern/disk.ErrFull", laid_lantern_disk_ErrFull), ("lantern/disk.ErrDown", laid_lantern_disk_ErrDown), ("lantern/disk.ErrNone", laid_lantern_disk_ErrNone), ("lantern/record.kinds", laid_lantern_record_kinds)] }
def JournalNamesSaid : Prop := journalNamesRow.holds Tryd.pinned (OpenSpec.ofChange journalNamesSpec)

/-- ITS FALSE NEIGHBOUR: 'it returns false'. Refute it at one input. -/
def journalNamesWrong : ChangeSpec := { name := "journalNames", fn := fun _ => fun
  | [] => { results := [.lit (.bool false)], args := [] }
  | _ => none }
def JournalNamesWrongFalsely : Prop := journalNamesRow.holds Tryd.pinned (OpenSpec.ofChange journalNamesWrong)

/- THE SECOND FORM. 'bulk': how many values and letters a reading holds, each counted each time it is reached (what is shared counts as often as it is met; a slice's spare places count too). A statement '..UptoSaid' is the law's where the arguments, and the package variables that the reading takes, are together of bulk at most 1048576: NARROWER than '..Said'. Prove '..Said' where nothing that the law and all that it calls make is longer than what came in: it says more and counts as full. Else prove '..UptoSaid'. A law counts once. -/
mutual
def uptoBulk {H : Type} : DataW H → Nat
  | .lit (.string bytes) => bytes.length + 1
  | .lit _ => 1
  | .nil => 1
  | .ptr d => uptoBulk d + 1
  | .slice elems spare => uptoBulkAll elems + uptoBulkAll spare + 1
  | .agg parts => uptoBulkAll parts + 1
  | .iface _ d => uptoBulk d + 1
  | .map entries => uptoBulkEntries entries + 1
  | .held _ => 1
def uptoBulkAll {H : Type} : List (DataW H) → Nat
  | [] => 0
  | d :: r => uptoBulk d + uptoBulkAll r
def uptoBulkEntries {H : Type} : List (Lit × DataW H) → Nat
  | [] => 0
  | x :: r => uptoBulkEntry x + uptoBulkEntries r
def uptoBulkEntry {H : Type} : Lit × DataW H → Nat
  | (.string bytes, d) => bytes.length + uptoBulk d + 1
  | (_, d) => uptoBulk d + 1
 end
def uptoSmall : (H : Type) → List (DataW H) → Bool := fun _ ds => decide (uptoBulkAll ds ≤ 1048576)
def OpenSpec.upto (s : _root_.Go.ChangeSpec) : _root_.Go.OpenSpec := { _root_.Go.OpenSpec.ofChange s with cond := some uptoSmall }

/-- 'lanternlaw06.RecordBack', WHERE WHAT IT READS IS OF BULK AT MOST 1048576: true; the input reads as it did. -/
def recordBackUptoRow : OpenClaim := { program := "ytjolflpmeodnaagdoor", sum := "32700a96e8b2298b4bf8255aa542c38d6e60943c437bf73b5ebf106c9ba72b48", func := "lantern/lanternlaw06.RecordBack", spec := "recordBack", unfollowed := true, recurses := true, named := ["lantern/record.kinds"], apart := false, laid := [("lantern/record.kinds", laid_lantern_record_kinds)], narrowed := true }
def RecordBackUptoSaid : Prop := recordBackUptoRow.holds Tryd.pinned (OpenSpec.upto recordBackSpec)

/-- 'lanternlaw06.RecordTorn', WHERE WHAT IT READS IS OF BULK AT MOST 1048576: true; the input reads as it did. -/
def recordTornUptoRow : OpenClaim := { program := "ytjolflpmeodnaagdoor", sum := "32700a96e8b2298b4bf8255aa542c38d6e60943c437bf73b5ebf106c9ba72b48", func := "lantern/lanternlaw06.RecordTorn", spec := "recordTorn", unfollowed := true, recurses := true, named := ["lantern/record.kinds"], apart := false, laid := [("lantern/record.kinds", laid_lantern_record_kinds)], narrowed := true }
def RecordTornUptoSaid : Prop := recordTornUptoRow.holds Tryd.pinned (OpenSpec.upto recordTornSpec)

/-- 'lanternlaw07.JournalNames', WHERE WHAT IT READS IS OF BULK AT MOST 1048576: true; the input reads as it did. -/
def journalNamesUptoRow : OpenClaim := { program := "ytjolflpmeodnaagdoor", sum := "32700a96e8b2298b4bf8255aa542c38d6e60943c437bf73b5ebf106c9ba72b48", func := "lantern/lanternlaw07.JournalNames", spec := "journalNames", inPlace := ["internal/reflectlite.TypeOf"], unfollowed := true, recurses := true, named := ["lantern/disk.ErrNone", "lantern/disk.ErrDown", "lantern/record.kinds", "lantern/disk.ErrFull"], apart := false, laid := [("lantern/disk.ErrFull", laid_lantern_disk_ErrFull), ("lantern/disk.ErrDown", laid_lantern_disk_ErrDown), ("lantern/disk.ErrNone", laid_lantern_disk_ErrNone), ("lantern/record.kinds", laid_lantern_record_kinds)], narrowed := true }
def JournalNamesUptoSaid : Prop := journalNamesUptoRow.holds Tryd.pinned (OpenSpec.upto journalNamesSpec)

end Rows
end Go.Proofs.YtjolflpmeodnaagDoor
