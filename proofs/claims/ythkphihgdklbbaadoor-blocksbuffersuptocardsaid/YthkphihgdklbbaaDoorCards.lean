/-
  DERIVED. GIVEN WITH THE SEED: THE CARDS: each row of YthkphihgdklbbaaDoorRows.lean that lists a variable, with what it lists TIED to the program's text (the seventh form; the later family's looks); each row that meets fmt, with fmt's text TOLD by the authors' own Lean function (tested against real Go, not proved from fmt's source: count such statements apart). THE CARD IS WHAT COUNTS. Prove the row's statement (the work); the ties are given (YthkphihgdklbbaaDoorTie.lean); close each card by the builder's one call (the guide's Derived/Test/ToyasCard.lean, 'card_holds'). Laid BY PROGRAM, IN A SANDBOX (cutbox-door.mjs). By AI agents, Wed Nov 11 2026. No macro, syntax, notation, axiom, sorry.
-/
import Derived.Test.YthkphihgdklbbaaDoorRows
import GoSem.ClaimSeven
namespace Go.Proofs.YthkphihgdklbbaaDoor
namespace Rows

/-- THE TIED CARD OF 'lanternlaw04.BlocksBuffers'. -/
def blocksBuffersCard : Claim7 := { stood := { row := blocksBuffersRow, standIns := [], harness := (true, "916427226c642db65a2b6866c43c6e5cb90a5cffc9ee800ebd08322254ebd772"), looks := false }, kinds := [], alts := [], laidByText := true, laidKinds := [.data], laidTests := true, laidLooks := .later }
def BlocksBuffersCardSaid : Prop := Claim7.holds Tryd.pinned (.plain (OpenSpec.ofChange blocksBuffersSpec)) blocksBuffersCard

/-- THE TIED CARD OF 'lanternlaw04.BlocksBack'. -/
def blocksBackCard : Claim7 := { stood := { row := blocksBackRow, standIns := [], harness := (true, "916427226c642db65a2b6866c43c6e5cb90a5cffc9ee800ebd08322254ebd772"), looks := false }, kinds := [], alts := [], laidByText := true, laidKinds := [.data], laidTests := true, laidLooks := .later }
def BlocksBackCardSaid : Prop := Claim7.holds Tryd.pinned (.plain (OpenSpec.ofChange blocksBackSpec)) blocksBackCard

/-- THE SECOND FORM's CARD OF 'lanternlaw04.BlocksBuffers'. -/
def blocksBuffersUptoCard : Claim7 := { stood := { row := blocksBuffersUptoRow, standIns := [], harness := (true, "916427226c642db65a2b6866c43c6e5cb90a5cffc9ee800ebd08322254ebd772"), looks := false }, kinds := [], alts := [], laidByText := true, laidKinds := [.data], laidTests := true, laidLooks := .later }
def BlocksBuffersUptoCardSaid : Prop := Claim7.holds Tryd.pinned (.plain (OpenSpec.upto blocksBuffersSpec)) blocksBuffersUptoCard

/-- THE SECOND FORM's CARD OF 'lanternlaw04.BlocksBack'. -/
def blocksBackUptoCard : Claim7 := { stood := { row := blocksBackUptoRow, standIns := [], harness := (true, "916427226c642db65a2b6866c43c6e5cb90a5cffc9ee800ebd08322254ebd772"), looks := false }, kinds := [], alts := [], laidByText := true, laidKinds := [.data], laidTests := true, laidLooks := .later }
def BlocksBackUptoCardSaid : Prop := Claim7.holds Tryd.pinned (.plain (OpenSpec.upto blocksBackSpec)) blocksBackUptoCard
end Rows
end Go.Proofs.YthkphihgdklbbaaDoor
