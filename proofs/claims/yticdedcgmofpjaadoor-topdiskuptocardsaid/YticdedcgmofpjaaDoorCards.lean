/-
  DERIVED. GIVEN WITH THE SEED: THE CARDS: each row of YticdedcgmofpjaaDoorRows.lean that lists a variable, with what it lists TIED to the program's text (the seventh form; the later family's looks); each row that meets fmt, with fmt's text TOLD by the authors' own Lean function (tested against real Go, not proved from fmt's source: count such statements apart). THE CARD IS WHAT COUNTS. Prove the row's statement (the work); the ties are given (YticdedcgmofpjaaDoorTie.lean); close each card by the builder's one call (the guide's Derived/Test/ToyasCard.lean, 'card_holds'). Laid BY PROGRAM, IN A SANDBOX (cutbox-door.mjs). By AI agents, Wed Nov 11 2026. No macro, syntax, notation, axiom, sorry.
-/
import Derived.Test.YticdedcgmofpjaaDoorRows
import GoSem.ClaimSeven
namespace Go.Proofs.YticdedcgmofpjaaDoor
namespace Rows

/-- THE TIED CARD OF 'lanterntop.TopDisk'. -/
def topDiskCard : Claim7 := { stood := { row := topDiskRow, standIns := [], harness := (true, "ae6b37884882001de7bdf10c2a3044fce0fcb6201c158398ba2ba2b6ed457365"), looks := true }, kinds := [], alts := [], laidByText := true, laidKinds := [.sentinel, .sentinel, .sentinel], laidTests := true, laidLooks := .later }
def TopDiskCardSaid : Prop := Claim7.holds Tryd.pinned (.plain (OpenSpec.ofChange topDiskSpec)) topDiskCard

/-- THE SECOND FORM's CARD OF 'lanterntop.TopDisk'. -/
def topDiskUptoCard : Claim7 := { stood := { row := topDiskUptoRow, standIns := [], harness := (true, "ae6b37884882001de7bdf10c2a3044fce0fcb6201c158398ba2ba2b6ed457365"), looks := true }, kinds := [], alts := [], laidByText := true, laidKinds := [.sentinel, .sentinel, .sentinel], laidTests := true, laidLooks := .later }
def TopDiskUptoCardSaid : Prop := Claim7.holds Tryd.pinned (.plain (OpenSpec.upto topDiskSpec)) topDiskUptoCard
end Rows
end Go.Proofs.YticdedcgmofpjaaDoor
