/-
  DERIVED. GIVEN WITH THE SEED: THE CARDS: each row of YtcfodcioeefbeaaDoorRows.lean that lists a variable, with what it lists TIED to the program's text (the seventh form; the later family's looks); each row that meets fmt, with fmt's text TOLD by the authors' own Lean function (tested against real Go, not proved from fmt's source: count such statements apart). THE CARD IS WHAT COUNTS. Prove the row's statement (the work); the ties are given (YtcfodcioeefbeaaDoorTie.lean); close each card by the builder's one call (the guide's Derived/Test/ToyasCard.lean, 'card_holds'). Laid BY PROGRAM, IN A SANDBOX (cutbox-door.mjs). By AI agents, Wed Nov 11 2026. No macro, syntax, notation, axiom, sorry.
-/
import Derived.Test.YtcfodcioeefbeaaDoorRows
import GoSem.ClaimSeven
namespace Go.Proofs.YtcfodcioeefbeaaDoor
namespace Rows

/-- THE TIED CARD OF 'lanternlaw12.ExportEnds'. -/
def exportEndsCard : Claim7 := { stood := { row := exportEndsRow, standIns := [], harness := (true, "57ffd3f521bf49bdf65a9e88817ef9db4b92ac5c2a43fe6ff199070131ff75e2"), looks := false }, kinds := [], alts := [], laidByText := true, laidKinds := [.data], laidTests := true, laidLooks := .later }
def ExportEndsCardSaid : Prop := Claim7.holds Tryd.pinned (.plain (OpenSpec.ofChange exportEndsSpec)) exportEndsCard

/-- THE SECOND FORM's CARD OF 'lanternlaw12.ExportEnds'. -/
def exportEndsUptoCard : Claim7 := { stood := { row := exportEndsUptoRow, standIns := [], harness := (true, "57ffd3f521bf49bdf65a9e88817ef9db4b92ac5c2a43fe6ff199070131ff75e2"), looks := false }, kinds := [], alts := [], laidByText := true, laidKinds := [.data], laidTests := true, laidLooks := .later }
def ExportEndsUptoCardSaid : Prop := Claim7.holds Tryd.pinned (.plain (OpenSpec.upto exportEndsSpec)) exportEndsUptoCard
end Rows
end Go.Proofs.YtcfodcioeefbeaaDoor
